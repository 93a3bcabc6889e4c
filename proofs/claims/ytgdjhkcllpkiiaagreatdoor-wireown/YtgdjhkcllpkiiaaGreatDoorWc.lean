/- Ports in memory: what is kept, what a port is; appends of texts that tell which block they make. -/
import Derived.Test.YtgdjhkcllpkiiaaGreatDoorChecked
import Derived.Test.YtgdjhkcllpkiiaaGreatDoorWa
import Derived.Lib.Walk
import Derived.LoopTactic
import Derived.Deep.DeepCutAuto
import Derived.Deep.LoopGhost
import Derived.Shelf.RegionOpenPlain
import Derived.Laws.CopyRow
import Derived.Laws.CopyOwn
import Derived.Laws.OwnMore
import Derived.Laws.MakeOwn
import Derived.Deep.AppendLies
import Derived.Maps.AppendAt
import Derived.Lib.AppendStr
import Derived.Deep.Slices
import Derived.Lib.LazyBuf
import Derived.Lib.SliceRun
import Derived.Laws.IdiomCopy
import Derived.Deep.RegionHeld3
import Derived.Deep.DrawnRows
import Derived.Laws.Cover1
import Derived.Laws.IdiomStrings
namespace Go.Proofs.YtgdjhkcllpkiiaaGreatDoor
open Go.Shelf Go.RowKit Go.Lib
set_option linter.unusedVariables false
set_option linter.unusedSimpArgs false
/-- Blocks that are as they were. -/
structure Kept (K : Nat → Prop) (W W' : World) : Prop where
  os : W'.os = W.os
  tape : W'.tape = W.tape
  output : W'.output = W.output
  size : W.heap.size ≤ W'.heap.size
  block : ∀ b, K b → W'.heap[b]? = W.heap[b]?
theorem Kept.refl (K : Nat → Prop) (W : World) : Kept K W W := ⟨rfl, rfl, rfl, Nat.le_refl _, fun _ _ => rfl⟩
theorem Kept.trans {K : Nat → Prop} {A B C : World} (h : Kept K A B) (k : Kept K B C) : Kept K A C :=
  ⟨k.os.trans h.os, k.tape.trans h.tape, k.output.trans h.output, Nat.le_trans h.size k.size, fun b hb => (k.block b hb).trans (h.block b hb)⟩
theorem Kept.less {K L : Nat → Prop} {A B : World} (h : Kept K A B) (hl : ∀ b, L b → K b) : Kept L A B := ⟨h.os, h.tape, h.output, h.size, fun b hb => h.block b (hl b hb)⟩
theorem Kept.alloc {K : Nat → Prop} {A B : World} (h : Kept K A B) (hk : ∀ b, K b → b < A.heap.size) (o : Obj) : Kept K A (B.alloc o) :=
  ⟨h.os, h.tape, h.output, by simp; have := h.size; omega, fun b hb => by rw [heap_alloc_old B o b (Nat.lt_of_lt_of_le (hk b hb) h.size)]; exact h.block b hb⟩
theorem Kept.drew {K : Nat → Prop} {A B : World} (h : Kept K A B) : Kept K A B.drew := ⟨h.os, h.tape, h.output, h.size, h.block⟩
theorem Kept.of_below {K : Nat → Prop} {A B : World} (h : Below A.heap.size A B) (hk : ∀ b, K b → b < A.heap.size) : Kept K A B :=
  ⟨h.os, h.tape, h.output, h.size, fun b hb => h.block b (hk b hb)⟩
theorem Kept.below {A B : World} {n : Nat} (h : Kept (fun b => b < n) A B) : Below n A B := ⟨h.os, h.tape, h.output, h.size, h.block⟩
theorem Kept.cell {K : Nat → Prop} {A B : World} (h : Kept K A B) {p : Addr} (hp : K p.block) : B.cell? p = A.cell? p := World.cell?_of_block (h.block _ hp)
theorem Kept.grown {K : Nat → Prop} {A B C : World} {row : Option Nat} (h : Kept K A B) (hg : B.grownBy C row) (hk : ∀ b, K b → b < A.heap.size) (hr : ∀ b, row = some b → ¬ K b) : Kept K A C :=
  ⟨hg.os.trans h.os, hg.tape.trans h.tape, hg.output.trans h.output, Nat.le_trans h.size hg.size,
   fun b hb => (hg.block b (Nat.lt_of_lt_of_le (hk b hb) h.size) (fun e => hr b e.symm hb)).trans (h.block b hb)⟩
theorem Kept.set {K : Nat → Prop} {A B : World} {g k : Nat} (h : Kept K A B) {cur : Array Value} {t : TypeId} {fz : Nat × Nat} (hg : B.heap[g]? = some (.cells cur t fz)) (v : Value) (hn : ¬ K g) : Kept K A (B.setCell ⟨g, k, none⟩ v) := by
  rw [setCell_eq_setRow B g k cur t fz v hg]
  exact ⟨h.os, h.tape, h.output, by simp; exact h.size, fun b hb => by rw [setRow_other B g b _ (fun e => hn (e ▸ hb))]; exact h.block b hb⟩
/-- Bytes as cells. -/
def u8c (b : List UInt8) : List Value := b.map fun x => Value.int .u8 x.toNat
theorem u8c_length (b : List UInt8) : (u8c b).length = b.length := by simp [u8c]
theorem u8c_append (a b : List UInt8) : u8c (a ++ b) = u8c a ++ u8c b := by simp [u8c]
/-- No cell of a block is frozen. -/
def Unf (W : World) (b : Nat) : Prop := ∀ k, W.frozen? ⟨b, k, none⟩ = false
theorem Unf.of_block {W W' : World} {b : Nat} (h : Unf W b) (e : W'.heap[b]? = W.heap[b]?) : Unf W' b := fun k => by
  have h1 := h k
  unfold World.frozen? at h1 ⊢
  rw [e]
  exact h1
theorem Unf.zero {W : World} {b : Nat} {c : Array Value} {t : TypeId} (h : W.heap[b]? = some (.cells c t (0, 0))) : Unf W b := fun k => by simp [World.frozen?, h]
theorem Unf.set {W : World} {b c k : Nat} {v : Value} (h : Unf W b) : Unf (W.setCell ⟨c, k, none⟩ v) b := fun j => by rw [World.frozen?_setCell]; exact h j
/-- An object of which nothing is frozen. -/
def freeO : Obj → Bool
  | .cells _ _ z => z == (0, 0)
  | _ => true
theorem Unf.free {W : World} {b : Nat} {o : Obj} (h : W.heap[b]? = some o) (ho : freeO o = true) : Unf W b := fun k => by
  unfold World.frozen?
  rw [h]
  cases o with
  | cells c e z =>
    obtain ⟨lo, hi⟩ := z
    have hz : (lo, hi) = (0, 0) := by simpa [freeO] using ho
    cases hz
    simp
  | _ => rfl
theorem Unf.new (W : World) {o : Obj} (ho : freeO o = true) : Unf (W.alloc o) W.heap.size := Unf.free (heap_alloc_new W o) ho
/-- A port, outside of K. -/
def isAt (K : Nat → Prop) (W : World) (t p : Nat) : St → Prop
  | .inl (b, f) => t = 77 ∧ ∃ v, W.heap[p]? = some (.cells #[.bool f, v] 82 (0, 0)) ∧ W.ownsRow 0 5 1 v b.length (u8c b) ∧ ∀ g, v.ownBlock = some g → ¬ K g ∧ g ≠ p
  | .inr (.inl f) => t = 83 ∧ W.heap[p]? = some (.cells #[.bool f] 85 (0, 0))
  | .inr (.inr (r, f)) => t = 94 ∧ r.size ≤ 65536 ∧ W.heap[p]? = some (.cells #[.bool f, .string r] 96 (0, 0))
structure PortIs (K : Nat → Prop) (W : World) (t p : Nat) (st : St) : Prop where
  out : ¬ K p
  lt : ∀ b, K b → b < W.heap.size
  unf : t = 94 → ∀ b, K b → p < b → Unf W b
  is : isAt K W t p st
theorem PortIs.less {K L : Nat → Prop} {W : World} {t p : Nat} {st : St} (h : PortIs K W t p st) (hl : ∀ b, L b → K b) : PortIs L W t p st := by
  refine ⟨fun e => h.out (hl _ e), fun b hb => h.lt b (hl b hb), fun e b hb hp => h.unf e b (hl b hb) hp, ?_⟩
  have := h.is
  cases st using St.three with
  | wr b f => obtain ⟨h0, v, h1, h2, h3⟩ := this; exact ⟨h0, v, h1, h2, fun g hg => ⟨fun e => (h3 g hg).1 (hl g e), (h3 g hg).2⟩⟩
  | bl f => exact this
  | rd r f => exact this
theorem ownsRow_of_block {W W' : World} {base e size n : Nat} {v : Value} {xs : List Value} (h : W.ownsRow base e size v n xs) (hb : ∀ g, v.ownBlock = some g → W'.heap[g]? = W.heap[g]?) : W'.ownsRow base e size v n xs := by
  refine ⟨h.1, ?_⟩
  rcases h.2 with ⟨rfl, h0⟩ | ⟨g, cap, cur, rfl, h1, h2, h3⟩
  · exact .inl ⟨rfl, h0⟩
  · exact .inr ⟨g, cap, cur, rfl, h1, by rw [hb g rfl]; exact h2, h3⟩
theorem ownsRow_lt {W : World} {base e size n : Nat} {v : Value} {xs : List Value} (h : W.ownsRow base e size v n xs) : ∀ g, v.ownBlock = some g → g < W.heap.size := fun g hg => (h.lt g hg).2
/-- The port's own blocks are there. -/
theorem PortIs.pos {K : Nat → Prop} {W : World} {t p : Nat} {st : St} (h : PortIs K W t p st) : p < W.heap.size := by
  have := h.is
  cases st using St.three with
  | wr b f => obtain ⟨_, v, h1, _⟩ := this; exact (Array.getElem?_eq_some_iff.1 h1).1
  | bl f => exact (Array.getElem?_eq_some_iff.1 this.2).1
  | rd r f => exact (Array.getElem?_eq_some_iff.1 this.2.2).1
/-- A block that is no part of the port is kept, too. -/
theorem PortIs.alloc {K : Nat → Prop} {W : World} {t p : Nat} {st : St} (h : PortIs K W t p st) (o : Obj) (ho : freeO o = true := by rfl) : PortIs (fun b => K b ∨ b = W.heap.size) (W.alloc o) t p st := by
  have hp := h.pos
  refine ⟨fun e => ?_, fun b hb => ?_, fun e b hb hpb => ?_, ?_⟩
  · rcases e with e | e
    · exact h.out e
    · omega
  · simp
    rcases hb with e | e
    · have := h.lt b e; omega
    · omega
  · rcases hb with hb | hb
    · exact (h.unf e b hb hpb).of_block (heap_alloc_old W o b (h.lt b hb))
    · subst hb; exact Unf.new W ho
  · have := h.is
    cases st using St.three with
    | wr b f =>
      obtain ⟨h0, v, h1, h2, h3⟩ := this
      refine ⟨h0, v, by rw [heap_alloc_old W o p hp]; exact h1, ownsRow_of_block h2 (fun g hg => heap_alloc_old W o g (ownsRow_lt h2 g hg)), fun g hg => ⟨fun e => ?_, (h3 g hg).2⟩⟩
      rcases e with e | e
      · exact (h3 g hg).1 e
      · have := ownsRow_lt h2 g hg; omega
    | bl f => exact ⟨this.1, by rw [heap_alloc_old W o p hp]; exact this.2⟩
    | rd r f => exact ⟨this.1, this.2.1, by rw [heap_alloc_old W o p hp]; exact this.2.2⟩
theorem PortIs.drew {K : Nat → Prop} {W : World} {t p : Nat} {st : St} (h : PortIs K W t p st) : PortIs K W.drew t p st := ⟨h.out, h.lt, h.unf, h.is⟩
/-- What makes new blocks alone leaves a port as it is. -/
theorem PortIs.below {K : Nat → Prop} {W W' : World} {t p : Nat} {st : St} (h : PortIs K W t p st) (hb : Below W.heap.size W W') : PortIs K W' t p st := by
  have hp := h.pos
  refine ⟨h.out, fun b hk => Nat.lt_of_lt_of_le (h.lt b hk) hb.size, fun e b hk hpb => (h.unf e b hk hpb).of_block (hb.block b (h.lt b hk)), ?_⟩
  have := h.is
  cases st using St.three with
  | wr b f =>
    obtain ⟨h0, v, h1, h2, h3⟩ := this
    exact ⟨h0, v, by rw [hb.block p hp]; exact h1, ownsRow_of_block h2 (fun g hg => hb.block g (ownsRow_lt h2 g hg)), h3⟩
  | bl f => exact ⟨this.1, by rw [hb.block p hp]; exact this.2⟩
  | rd r f => exact ⟨this.1, this.2.1, by rw [hb.block p hp]; exact this.2.2⟩
theorem PortIs.allocK {K : Nat → Prop} {W : World} {t p : Nat} {st : St} (h : PortIs K W t p st) (o : Obj) : PortIs K (W.alloc o) t p st := h.below ((Below.refl _ _).alloc (Nat.le_refl _) o)
/-- So does a change of a block of K. -/
theorem PortIs.but {K : Nat → Prop} {W W' : World} {t p : Nat} {st : St} (h : PortIs K W t p st) (hs : W'.heap.size = W.heap.size) (hb : ∀ b, ¬ K b → W'.heap[b]? = W.heap[b]?) (hu : ∀ b, Unf W b → Unf W' b) : PortIs K W' t p st := by
  refine ⟨h.out, fun b hk => by rw [hs]; exact h.lt b hk, fun e b hk hpb => hu b (h.unf e b hk hpb), ?_⟩
  have := h.is
  cases st using St.three with
  | wr b f =>
    obtain ⟨h0, v, h1, h2, h3⟩ := this
    exact ⟨h0, v, by rw [hb p h.out]; exact h1, ownsRow_of_block h2 (fun g hg => hb g (h3 g hg).1), h3⟩
  | bl f => exact ⟨this.1, by rw [hb p h.out]; exact this.2⟩
  | rd r f => exact ⟨this.1, this.2.1, by rw [hb p h.out]; exact this.2.2⟩
section
variable {P : Program} (w : World)
theorem append_string_block (t u ty e : TypeId) (i : TypeInfo) (ht : P.underlying t = some (.slice e)) (hu : P.underlying u = some .string) (hi : P.info? e = some i) (hz : i.zero = some (.int .u8 0))
    (hsize : i.size = 1) (hby : i.bytes = 1) (v : Value) (n : Nat) (xs : List Value) (hown : w.ownsRow 0 e 1 v n xs) (s : ByteArray) (h63 : n + s.size ≤ maxLen) (hbytes : n + s.size ≤ 140737488355328) (v' : Value) (w' : World)
    (h : (Builtin.append_ #[t, u] ty #[v, .string s]).run P w = .ok v' w') : v'.ownBlock = v.ownBlock ∨ v'.ownBlock = some w.heap.size := by
  have hsmall : n + s.size ≤ 9223372036854775807 := by simp only [maxLen] at h63; omega
  have hxl : xs.length = n := by simpa using hown.1
  rcases hown.2 with ⟨rfl, rfl⟩ | ⟨g, cap, cur, rfl, hbg, hg, hnc, hcm, hcs, htake⟩
  · by_cases hm : s.size = 0
    · have hf := run_firstCells_string (P := P) w 1 s
      rw [hm] at hf
      simp [Builtin.append_, run_underlying ht, run_underlying hu, sizeOf, typeInfo, hi, hsize, Builtin.lenOf, hm, hf] at h
      left
      rw [← h.1]
    · have hr := run_append_nil_string (P := P) w t u ty e i (.int .u8 0) ht hu hi hz s (by omega) (by omega) (by rw [hby]; omega)
      rw [hr] at h
      right
      simp only [Result.ok.injEq] at h
      rw [← h.1]
      rfl
  · by_cases hroom : n + s.size ≤ cap
    · have hcs' : cur.size = cap := by simpa using hcs
      have hr := run_append_room_string (P := P) w t u ty e i ht hu hi hsize g n cap cur hg s hroom (by omega)
      rw [hr] at h
      left
      simp only [Result.ok.injEq] at h
      rw [← h.1]
      rfl
    · have holds : ∀ j u, xs[j]? = some u → w.cell? ((⟨g, 0, none⟩ : Addr).add j) = some u := hown.cells (g := g) rfl
      have hr := run_append_grow_string (P := P) w t u ty e i (.int .u8 0) ht hu hi hz ⟨g, 0, none⟩ n cap xs (by rw [hsize]; simpa using hxl) holds s (by omega) (by omega) (by rw [hby]; exact growslice_fits (by omega) (by omega))
      rw [hr] at h
      right
      simp only [Result.ok.injEq] at h
      rw [← h.1]
      rfl
theorem wpList_append_string_at {ops : Array Oper} {rest : List Oper} {o : Oper} {a : Act} {Q : Exit → Act → World → Prop} (hgd : o.guard = none) (sl x : Operand) (t u : TypeId)
    (ho : o.op = .call { callee := .builtin .append, args := #[sl, x], argTypes := #[t, u] })
    (e : TypeId) (i : TypeInfo) (ht : P.underlying t = some (.slice e)) (hu : P.underlying u = some .string) (hi : P.info? e = some i) (hz : i.zero = some (.int .u8 0))
    (hsize : i.size = 1) (hby : i.bytes = 1)
    (v : Value) (n : Nat) (xs : List Value) (hs : a.eval sl = v) (hown : w.ownsRow 0 e 1 v n xs) (s : ByteArray) (hx : a.eval x = .string s)
    (h63 : n + s.size ≤ maxLen) (hbytes : n + s.size ≤ 140737488355328)
    (h : ∀ v' w', w'.ownsRow 0 e 1 v' (n + s.size) (xs ++ strCells s) → w.grownBy w' v.ownBlock → (v'.ownBlock = v.ownBlock ∨ v'.ownBlock = some w.heap.size) → wpList P ops Q rest (a.put o.dst v') w') : wpList P ops Q (o :: rest) a w := by
  refine wpList_plain hgd fun K hK => ?_
  obtain ⟨v', w', hr, h2, h3, h4⟩ := run_append_own_string (P := P) w 0 t u o.type e i ht hu hi hz hsize hby v n xs hown s h63 hbytes (Nat.zero_le _)
  have h5 := append_string_block (P := P) w t u o.type e i ht hu hi hz hsize hby v n xs hown s h63 hbytes v' w' hr
  unfold Oper.wp execOp
  simp only [ho, resolve, invoke, builtin, Sem.run_bind, Sem.run_pure, Result.andThen_ok, List.map_toArray, List.map_cons, List.map_nil, hs, hx, hr]
  exact hK _ _ (h v' w' h2 h3 h5)
end
theorem info5 : ∃ i0, Tryz.prog.info? 5 = some i0 ∧ i0.zero = some (.int .u8 0) ∧ i0.size = 1 ∧ i0.bytes = 1 := by
  have h1 : (Tryz.prog.info? 5).bind (·.zero) = some (.int .u8 0) := by kernel_rfl
  have h2 : (Tryz.prog.info? 5).map (·.size) = some 1 := by kernel_rfl
  have h3 : (Tryz.prog.info? 5).map (·.bytes) = some 1 := by kernel_rfl
  generalize Tryz.prog.info? 5 = i at *
  cases i with
  | none => cases h1
  | some i => exact ⟨i, rfl, h1, Option.some.inj h2, Option.some.inj h3⟩
theorem frozen_zero {w : World} {g : Nat} {cur : Array Value} {e : TypeId} (h : w.heap[g]? = some (.cells cur e (0, 0))) (j : Nat) : w.frozen? ⟨g, j, none⟩ = false := by
  simp [World.frozen?, h]
end Go.Proofs.YtgdjhkcllpkiiaaGreatDoor
