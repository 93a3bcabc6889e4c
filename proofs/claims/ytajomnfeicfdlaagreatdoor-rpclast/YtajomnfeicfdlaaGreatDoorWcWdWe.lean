/- Ports in memory: what is kept, what a port is; appends of texts that tell which block they make. -/
import Derived.Test.YtajomnfeicfdlaaGreatDoorChecked
import Derived.Test.YtajomnfeicfdlaaGreatDoorWa
import Derived.Lib.Walk
import Derived.LoopTactic
import Derived.Deep.DeepCutAuto
import Derived.Deep.LoopGhost
import Derived.Shelf.RegionOpenPlain
import Derived.Laws.CopyRow
import Derived.Laws.CopyOwn
import Derived.Laws.OwnMore
import Derived.Laws.MakeOwn
import Derived.Deep.AppendLies
import Derived.Maps.AppendAt
import Derived.Lib.AppendStr
import Derived.Deep.Slices
import Derived.Lib.LazyBuf
import Derived.Lib.SliceRun
import Derived.Laws.IdiomCopy
import Derived.Deep.RegionHeld3
import Derived.Deep.DrawnRows
import Derived.Laws.Cover1
import Derived.Laws.IdiomStrings
namespace Go.Proofs.YtajomnfeicfdlaaGreatDoor
open Go.Shelf Go.RowKit Go.Lib
set_option linter.unusedVariables false
set_option linter.unusedSimpArgs false
/-- Blocks that are as they were. -/
structure Kept (K : Nat → Prop) (W W' : World) : Prop where
 os : W'.os = W.os
 tape : W'.tape = W.tape
 output : W'.output = W.output
 size : W.heap.size ≤ W'.heap.size
 block : ∀ b, K b → W'.heap[b]? = W.heap[b]?
theorem Kept.refl (K : Nat → Prop) (W : World) : Kept K W W := ⟨rfl, rfl, rfl, Nat.le_refl _, fun _ _ => rfl⟩
theorem Kept.trans {K : Nat → Prop} {A B C : World} (h : Kept K A B) (k : Kept K B C) : Kept K A C :=
 ⟨k.os.trans h.os, k.tape.trans h.tape, k.output.trans h.output, Nat.le_trans h.size k.size, fun b hb => (k.block b hb).trans (h.block b hb)⟩
theorem Kept.less {K L : Nat → Prop} {A B : World} (h : Kept K A B) (hl : ∀ b, L b → K b) : Kept L A B := ⟨h.os, h.tape, h.output, h.size, fun b hb => h.block b (hl b hb)⟩
theorem Kept.alloc {K : Nat → Prop} {A B : World} (h : Kept K A B) (hk : ∀ b, K b → b < A.heap.size) (o : Obj) : Kept K A (B.alloc o) :=
 ⟨h.os, h.tape, h.output, by simp; have := h.size; omega, fun b hb => by rw [heap_alloc_old B o b (Nat.lt_of_lt_of_le (hk b hb) h.size)]; exact h.block b hb⟩
theorem Kept.drew {K : Nat → Prop} {A B : World} (h : Kept K A B) : Kept K A B.drew := ⟨h.os, h.tape, h.output, h.size, h.block⟩
theorem Kept.of_below {K : Nat → Prop} {A B : World} (h : Below A.heap.size A B) (hk : ∀ b, K b → b < A.heap.size) : Kept K A B :=
 ⟨h.os, h.tape, h.output, h.size, fun b hb => h.block b (hk b hb)⟩
theorem Kept.below {A B : World} {n : Nat} (h : Kept (fun b => b < n) A B) : Below n A B := ⟨h.os, h.tape, h.output, h.size, h.block⟩
theorem Kept.cell {K : Nat → Prop} {A B : World} (h : Kept K A B) {p : Addr} (hp : K p.block) : B.cell? p = A.cell? p := World.cell?_of_block (h.block _ hp)
theorem Kept.grown {K : Nat → Prop} {A B C : World} {row : Option Nat} (h : Kept K A B) (hg : B.grownBy C row) (hk : ∀ b, K b → b < A.heap.size) (hr : ∀ b, row = some b → ¬ K b) : Kept K A C :=
 ⟨hg.os.trans h.os, hg.tape.trans h.tape, hg.output.trans h.output, Nat.le_trans h.size hg.size,
  fun b hb => (hg.block b (Nat.lt_of_lt_of_le (hk b hb) h.size) (fun e => hr b e.symm hb)).trans (h.block b hb)⟩
theorem Kept.set {K : Nat → Prop} {A B : World} {g k : Nat} (h : Kept K A B) {cur : Array Value} {t : TypeId} {fz : Nat × Nat} (hg : B.heap[g]? = some (.cells cur t fz)) (v : Value) (hn : ¬ K g) : Kept K A (B.setCell ⟨g, k, none⟩ v) := by
 rw [setCell_eq_setRow B g k cur t fz v hg]
 exact ⟨h.os, h.tape, h.output, by simp; exact h.size, fun b hb => by rw [setRow_other B g b _ (fun e => hn (e ▸ hb))]; exact h.block b hb⟩
/-- Bytes as cells. -/
def u8c (b : List UInt8) : List Value := b.map fun x => Value.int .u8 x.toNat
theorem u8c_length (b : List UInt8) : (u8c b).length = b.length := by simp [u8c]
theorem u8c_append (a b : List UInt8) : u8c (a ++ b) = u8c a ++ u8c b := by simp [u8c]
/-- A port, outside of K. -/
def isAt (K : Nat → Prop) (W : World) (t p : Nat) : St → Prop
 | .inl (b, f) => t = 117 ∧ ∃ v, W.heap[p]? = some (.cells #[.bool f, v] 122 (0, 0)) ∧ W.ownsRow 0 5 1 v b.length (u8c b) ∧ ∀ g, v.ownBlock = some g → ¬ K g ∧ g ≠ p
 | .inr (.inl f) => t = 123 ∧ W.heap[p]? = some (.cells #[.bool f] 125 (0, 0))
 | .inr (.inr (r, f)) => t = 212 ∧ False
structure PortIs (K : Nat → Prop) (W : World) (t p : Nat) (st : St) : Prop where
 out : ¬ K p
 lt : ∀ b, K b → b < W.heap.size
 is : isAt K W t p st
theorem PortIs.less {K L : Nat → Prop} {W : World} {t p : Nat} {st : St} (h : PortIs K W t p st) (hl : ∀ b, L b → K b) : PortIs L W t p st := by
 refine ⟨fun e => h.out (hl _ e), fun b hb => h.lt b (hl b hb), ?_⟩
 have := h.is
 cases st using St.three with
 | wr b f => obtain ⟨h0, v, h1, h2, h3⟩ := this; exact ⟨h0, v, h1, h2, fun g hg => ⟨fun e => (h3 g hg).1 (hl g e), (h3 g hg).2⟩⟩
 | bl f => exact this
 | rd r f => exact this
theorem ownsRow_of_block {W W' : World} {base e size n : Nat} {v : Value} {xs : List Value} (h : W.ownsRow base e size v n xs) (hb : ∀ g, v.ownBlock = some g → W'.heap[g]? = W.heap[g]?) : W'.ownsRow base e size v n xs := by
 refine ⟨h.1, ?_⟩
 rcases h.2 with ⟨rfl, h0⟩ | ⟨g, cap, cur, rfl, h1, h2, h3⟩
 ·exact .inl ⟨rfl, h0⟩
 ·exact .inr ⟨g, cap, cur, rfl, h1, by rw [hb g rfl]; exact h2, h3⟩
theorem ownsRow_lt {W : World} {base e size n : Nat} {v : Value} {xs : List Value} (h : W.ownsRow base e size v n xs) : ∀ g, v.ownBlock = some g → g < W.heap.size := fun g hg => (h.lt g hg).2
/-- The port's own blocks are there. -/
theorem PortIs.pos {K : Nat → Prop} {W : World} {t p : Nat} {st : St} (h : PortIs K W t p st) : p < W.heap.size := by
 have := h.is
 cases st using St.three with
 | wr b f => obtain ⟨_, v, h1, _⟩ := this; exact (Array.getElem?_eq_some_iff.1 h1).1
 | bl f => exact (Array.getElem?_eq_some_iff.1 this.2).1
 | rd r f => exact this.2.elim
/-- A block that is no part of the port is kept, too. -/
theorem PortIs.alloc {K : Nat → Prop} {W : World} {t p : Nat} {st : St} (h : PortIs K W t p st) (o : Obj) : PortIs (fun b => K b ∨ b = W.heap.size) (W.alloc o) t p st := by
 have hp := h.pos
 refine ⟨fun e => ?_, fun b hb => ?_, ?_⟩
 ·rcases e with e | e
  ·exact h.out e
  ·omega
 ·simp
  rcases hb with e | e
  ·have := h.lt b e; omega
  ·omega
 ·have := h.is
  cases st using St.three with
  | wr b f =>
   obtain ⟨h0, v, h1, h2, h3⟩ := this
   refine ⟨h0, v, by rw [heap_alloc_old W o p hp]; exact h1, ownsRow_of_block h2 (fun g hg => heap_alloc_old W o g (ownsRow_lt h2 g hg)), fun g hg => ⟨fun e => ?_, (h3 g hg).2⟩⟩
   rcases e with e | e
   ·exact (h3 g hg).1 e
   ·have := ownsRow_lt h2 g hg; omega
  | bl f => exact ⟨this.1, by rw [heap_alloc_old W o p hp]; exact this.2⟩
  | rd r f => exact this.2.elim
theorem PortIs.drew {K : Nat → Prop} {W : World} {t p : Nat} {st : St} (h : PortIs K W t p st) : PortIs K W.drew t p st := ⟨h.out, h.lt, h.is⟩
theorem PortIs.allocK {K : Nat → Prop} {W : World} {t p : Nat} {st : St} (h : PortIs K W t p st) (o : Obj) : PortIs K (W.alloc o) t p st := (h.alloc o).less fun b hb => .inl hb
/-- What makes new blocks alone leaves a port as it is. -/
theorem PortIs.below {K : Nat → Prop} {W W' : World} {t p : Nat} {st : St} (h : PortIs K W t p st) (hb : Below W.heap.size W W') : PortIs K W' t p st := by
 have hp := h.pos
 refine ⟨h.out, fun b hk => Nat.lt_of_lt_of_le (h.lt b hk) hb.size, ?_⟩
 have := h.is
 cases st using St.three with
 | wr b f =>
  obtain ⟨h0, v, h1, h2, h3⟩ := this
  exact ⟨h0, v, by rw [hb.block p hp]; exact h1, ownsRow_of_block h2 (fun g hg => hb.block g (ownsRow_lt h2 g hg)), h3⟩
 | bl f => exact ⟨this.1, by rw [hb.block p hp]; exact this.2⟩
 | rd r f => exact this.2.elim
/-- So does a change of a block of K. -/
theorem PortIs.but {K : Nat → Prop} {W W' : World} {t p : Nat} {st : St} (h : PortIs K W t p st) (hs : W'.heap.size = W.heap.size) (hb : ∀ b, ¬ K b → W'.heap[b]? = W.heap[b]?) : PortIs K W' t p st := by
 refine ⟨h.out, fun b hk => by rw [hs]; exact h.lt b hk, ?_⟩
 have := h.is
 cases st using St.three with
 | wr b f =>
  obtain ⟨h0, v, h1, h2, h3⟩ := this
  exact ⟨h0, v, by rw [hb p h.out]; exact h1, ownsRow_of_block h2 (fun g hg => hb g (h3 g hg).1), h3⟩
 | bl f => exact ⟨this.1, by rw [hb p h.out]; exact this.2⟩
 | rd r f => exact this.2.elim
section
variable {P : Program} (w : World)
theorem append_string_block (t u ty e : TypeId) (i : TypeInfo) (ht : P.underlying t = some (.slice e)) (hu : P.underlying u = some .string) (hi : P.info? e = some i) (hz : i.zero = some (.int .u8 0))
  (hsize : i.size = 1) (hby : i.bytes = 1) (v : Value) (n : Nat) (xs : List Value) (hown : w.ownsRow 0 e 1 v n xs) (s : ByteArray) (h63 : n + s.size ≤ maxLen) (hbytes : n + s.size ≤ 140737488355328) (v' : Value) (w' : World)
  (h : (Builtin.append_ #[t, u] ty #[v, .string s]).run P w = .ok v' w') : v'.ownBlock = v.ownBlock ∨ v'.ownBlock = some w.heap.size := by
 have hsmall : n + s.size ≤ 9223372036854775807 := by simp only [maxLen] at h63; omega
 have hxl : xs.length = n := by simpa using hown.1
 rcases hown.2 with ⟨rfl, rfl⟩ | ⟨g, cap, cur, rfl, hbg, hg, hnc, hcm, hcs, htake⟩
 ·by_cases hm : s.size = 0
  ·have hf := run_firstCells_string (P := P) w 1 s
   rw [hm] at hf
   simp [Builtin.append_, run_underlying ht, run_underlying hu, sizeOf, typeInfo, hi, hsize, Builtin.lenOf, hm, hf] at h
   left
   rw [← h.1]
  ·have hr := run_append_nil_string (P := P) w t u ty e i (.int .u8 0) ht hu hi hz s (by omega) (by omega) (by rw [hby]; omega)
   rw [hr] at h
   right
   simp only [Result.ok.injEq] at h
   rw [← h.1]
   rfl
 ·by_cases hroom : n + s.size ≤ cap
  ·have hcs' : cur.size = cap := by simpa using hcs
   have hr := run_append_room_string (P := P) w t u ty e i ht hu hi hsize g n cap cur hg s hroom (by omega)
   rw [hr] at h
   left
   simp only [Result.ok.injEq] at h
   rw [← h.1]
   rfl
  ·have holds : ∀ j u, xs[j]? = some u → w.cell? ((⟨g, 0, none⟩ : Addr).add j) = some u := hown.cells (g := g) rfl
   have hr := run_append_grow_string (P := P) w t u ty e i (.int .u8 0) ht hu hi hz ⟨g, 0, none⟩ n cap xs (by rw [hsize]; simpa using hxl) holds s (by omega) (by omega) (by rw [hby]; exact growslice_fits (by omega) (by omega))
   rw [hr] at h
   right
   simp only [Result.ok.injEq] at h
   rw [← h.1]
   rfl
theorem wpList_append_string_at {ops : Array Oper} {rest : List Oper} {o : Oper} {a : Act} {Q : Exit → Act → World → Prop} (hgd : o.guard = none) (sl x : Operand) (t u : TypeId)
  (ho : o.op = .call { callee := .builtin .append, args := #[sl, x], argTypes := #[t, u] })
  (e : TypeId) (i : TypeInfo) (ht : P.underlying t = some (.slice e)) (hu : P.underlying u = some .string) (hi : P.info? e = some i) (hz : i.zero = some (.int .u8 0))
  (hsize : i.size = 1) (hby : i.bytes = 1)
  (v : Value) (n : Nat) (xs : List Value) (hs : a.eval sl = v) (hown : w.ownsRow 0 e 1 v n xs) (s : ByteArray) (hx : a.eval x = .string s)
  (h63 : n + s.size ≤ maxLen) (hbytes : n + s.size ≤ 140737488355328)
  (h : ∀ v' w', w'.ownsRow 0 e 1 v' (n + s.size) (xs ++ strCells s) → w.grownBy w' v.ownBlock → (v'.ownBlock = v.ownBlock ∨ v'.ownBlock = some w.heap.size) → wpList P ops Q rest (a.put o.dst v') w') : wpList P ops Q (o :: rest) a w := by
 refine wpList_plain hgd fun K hK => ?_
 obtain ⟨v', w', hr, h2, h3, h4⟩ := run_append_own_string (P := P) w 0 t u o.type e i ht hu hi hz hsize hby v n xs hown s h63 hbytes (Nat.zero_le _)
 have h5 := append_string_block (P := P) w t u o.type e i ht hu hi hz hsize hby v n xs hown s h63 hbytes v' w' hr
 unfold Oper.wp execOp
 simp only [ho, resolve, invoke, builtin, Sem.run_bind, Sem.run_pure, Result.andThen_ok, List.map_toArray, List.map_cons, List.map_nil, hs, hx, hr]
 exact hK _ _ (h v' w' h2 h3 h5)
end
theorem info5 : ∃ i0, Tryz.prog.info? 5 = some i0 ∧ i0.zero = some (.int .u8 0) ∧ i0.size = 1 ∧ i0.bytes = 1 := by
 have h1 : (Tryz.prog.info? 5).bind (·.zero) = some (.int .u8 0) := by kernel_rfl
 have h2 : (Tryz.prog.info? 5).map (·.size) = some 1 := by kernel_rfl
 have h3 : (Tryz.prog.info? 5).map (·.bytes) = some 1 := by kernel_rfl
 generalize Tryz.prog.info? 5 = i at *
 cases i with
 | none => cases h1
 | some i => exact ⟨i, rfl, h1, Option.some.inj h2, Option.some.inj h3⟩
theorem frozen_zero {w : World} {g : Nat} {cur : Array Value} {e : TypeId} (h : w.heap[g]? = some (.cells cur e (0, 0))) (j : Nat) : w.frozen? ⟨g, j, none⟩ = false := by
 simp [World.frozen?, h]
end Go.Proofs.YtajomnfeicfdlaaGreatDoor
/- What the ports' own functions answer: fail, failed, the writer's octet, the blank's three. -/
namespace Go.Proofs.YtajomnfeicfdlaaGreatDoor
open Go.Shelf Go.RowKit Go.Lib
set_option linter.unusedVariables false
set_option linter.unusedSimpArgs false
attribute [local go_sem ↓] Go.wp_at_zero Go.wp_at_succ
theorem set0_two {W : World} {g : Nat} {a b : Value} {t : TypeId} (hg : W.heap[g]? = some (.cells #[a, b] t (0, 0))) (v : Value) : (W.setCell ⟨g, 0, none⟩ v).heap[g]? = some (.cells #[v, b] t (0, 0)) := by
 rw [setCell_eq_setRow W g 0 _ t (0, 0) v hg]
 exact setRow_heap W g _ _ t _ hg
theorem set1_two {W : World} {g : Nat} {a b : Value} {t : TypeId} (hg : W.heap[g]? = some (.cells #[a, b] t (0, 0))) (v : Value) : (W.setCell ⟨g, 1, none⟩ v).heap[g]? = some (.cells #[a, v] t (0, 0)) := by
 rw [setCell_eq_setRow W g 1 _ t (0, 0) v hg]
 exact setRow_heap W g _ _ t _ hg
theorem set0_one {W : World} {g : Nat} {a : Value} {t : TypeId} (hg : W.heap[g]? = some (.cells #[a] t (0, 0))) (v : Value) : (W.setCell ⟨g, 0, none⟩ v).heap[g]? = some (.cells #[v] t (0, 0)) := by
 rw [setCell_eq_setRow W g 0 _ t (0, 0) v hg]
 exact setRow_heap W g _ _ t _ hg
theorem set_other {W : World} {g k b : Nat} {cur : Array Value} {t : TypeId} {fz : Nat × Nat} (hg : W.heap[g]? = some (.cells cur t fz)) (v : Value) (hn : b ≠ g) : (W.setCell ⟨g, k, none⟩ v).heap[b]? = W.heap[b]? := by
 rw [setCell_eq_setRow W g k cur t fz v hg]
 exact setRow_other W g b _ (fun e => hn e)
theorem set_size {W : World} {g k : Nat} {cur : Array Value} {t : TypeId} {fz : Nat × Nat} (hg : W.heap[g]? = some (.cells cur t fz)) (v : Value) : (W.setCell ⟨g, k, none⟩ v).heap.size = W.heap.size := by
 rw [setCell_eq_setRow W g k cur t fz v hg]
 simp
theorem cellR {W : World} {g k : Nat} {cur : Array Value} {t : TypeId} (hg : W.heap[g]? = some (.cells cur t (0, 0))) {v : Value} (h : cur[k]? = some v) : W.cell? ⟨g, k, none⟩ = some v := by simp [World.cell?, hg, h]
/-- What a port's found cell is. -/
theorem PortIs.found {K : Nat → Prop} {W : World} {t p : Nat} {st : St} (h : PortIs K W t p st) : ∃ cur e f, W.heap[p]? = some (.cells cur e (0, 0)) ∧ cur[0]? = some (.bool f) := by
 have := h.is
 cases st using St.three with
 | wr b f => obtain ⟨_, v, h1, _⟩ := this; exact ⟨_, _, f, h1, rfl⟩
 | bl f => exact ⟨_, _, f, this.2, rfl⟩
 | rd r f => exact this.2.elim
theorem PortIs.failed {K : Nat → Prop} {W : World} {t p : Nat} {st : St} (h : PortIs K W t p st) : PortIs K (W.setCell ⟨p, 0, none⟩ (.bool true)) t p (failP st) := by
 obtain ⟨cur, e, f0, hg, _⟩ := h.found
 have hs := set_size (k := 0) hg (.bool true)
 refine ⟨h.out, fun b hb => by rw [hs]; exact h.lt b hb, ?_⟩
 have := h.is
 cases st using St.three with
 | wr b f =>
  obtain ⟨h0, v, h1, h2, h3⟩ := this
  exact ⟨h0, v, set0_two h1 _, ownsRow_of_block h2 (fun g hg' => set_other h1 _ (h3 g hg').2), h3⟩
 | bl f => exact ⟨this.1, set0_one this.2 _⟩
 | rd r f => exact this.2.elim
set_option maxHeartbeats 1000000 in
theorem fail_any (K : Nat → Prop) (t p : Nat) (st : St) (w : World) (h : PortIs K w t p st) :
  Calls Tryz.prog 182 #[.pointer (some ⟨p, 0, none⟩)] w fun e w' => e = .returned (.tuple #[]) ∧ PortIs K w' t p (failP st) ∧ Kept K w w' := by
 obtain ⟨cur, e, f0, hg, h0⟩ := h.found
 have c0 := cellR hg h0
 have fz := frozen_zero hg 0
 have HP : Hid (PortIs K (w.setCell ⟨p, 0, none⟩ (.bool true)) t p (failP st)) := h.failed
 have HK : Hid (Kept K w (w.setCell ⟨p, 0, none⟩ (.bool true))) := (Kept.refl K w).set hg _ h.out
 clear h hg h0
 go_enter Tryz.func182, Tryz.ntmps182
 go_wp2_with fail
 go_end0
 exact ⟨rfl, HP.out, HK.out⟩
/-- Which function tells whether a port has failed. -/
def fdF (t : Nat) : Nat := if t = 117 then 62 else 63
set_option maxHeartbeats 1000000 in
theorem failed_any (K : Nat → Prop) (t p : Nat) (st : St) (w : World) (h : PortIs K w t p st) :
  Calls Tryz.prog (fdF t) #[.pointer (some ⟨p, 0, none⟩)] w fun e w' => e = .returned (.bool (failedP st)) ∧ PortIs K w' t p st ∧ Kept K w w' := by
 have HP : Hid (∀ W, Below w.heap.size w W → PortIs K W t p st ∧ Kept K w W) := fun W hb => ⟨h.below hb, Kept.of_below hb h.lt⟩
 have his := h.is
 clear h
 cases st using St.three with
 | wr b f =>
  obtain ⟨rfl, v, h1, h2, h3⟩ := his
  show Calls Tryz.prog 62 _ _ _
  have c0 := cellR (k := 0) h1 rfl
  have c1 := cellR (k := 1) h1 rfl
  have hv : ∃ q c, v = .slice q b.length c := by
   rcases h2.2 with ⟨rfl, h0⟩ | ⟨g, cap, cur, rfl, _⟩
   ·exact ⟨none, 0, by rw [h0]⟩
   ·exact ⟨_, _, rfl⟩
  obtain ⟨q, c, rfl⟩ := hv
  clear h2 h3 h1
  cases f with
  | true =>
   have HE : Hid (failedP (.wr b true) = true) := by show _ = _; simp [failedP]
   go_enter Tryz.func62, Tryz.ntmps62
   go_wp2_with fail
   go_ret
   exact ⟨by rw [HE.out]; rfl, HP.out _ (Below.refl _ _)⟩
  | false =>
   by_cases hl : 65536 < b.length
   ·have HE : Hid (failedP (.wr b false) = true) := by show _ = _; simp [failedP, hl]
    have z0 : (65536 : Int) < (b.length : Int) := by omega
    clear hl
    go_enter Tryz.func62, Tryz.ntmps62
    go_wp2_with fail
    go_ret
    exact ⟨by rw [HE.out]; rfl, HP.out _ (Below.refl _ _)⟩
   ·have HE : Hid (failedP (.wr b false) = false) := by show _ = _; simp [failedP]; omega
    have z0 : ¬ (65536 : Int) < (b.length : Int) := by omega
    clear hl
    go_enter Tryz.func62, Tryz.ntmps62
    go_wp2_with fail
    go_ret
    exact ⟨by rw [HE.out]; rfl, HP.out _ (Below.refl _ _)⟩
 | bl f =>
  obtain ⟨rfl, h1⟩ := his
  show Calls Tryz.prog 63 _ _ _
  have c0 := cellR (k := 0) h1 rfl
  clear h1
  go_enter Tryz.func63, Tryz.ntmps63
  go_wp2_with fail
  go_ret
  exact ⟨rfl, HP.out _ (Below.refl _ _)⟩
 | rd r f => exact his.2.elim
theorem u8c_one (l : List UInt8) : ∀ u ∈ u8c l, u.oneCell' = true := by
 intro u hu
 simp only [u8c, List.mem_map] at hu
 obtain ⟨x, _, rfl⟩ := hu
 rfl
theorem cell_one_new (w : World) (v : Value) (t : TypeId) : ∀ j u, [v][j]? = some u → (w.alloc (.cells #[v] t)).cell? ((⟨w.heap.size, 0, none⟩ : Addr).add j) = some u := by
 intro j u hj
 match j with
 | 0 =>
  simp at hj
  subst hj
  exact cellR (g := w.heap.size) (k := 0) (heap_alloc_new w _) rfl
 | j + 1 => simp at hj
theorem own_form {W : World} {base e size n : Nat} {v : Value} {xs : List Value} (h : W.ownsRow base e size v n xs) : ∃ q c, v = .slice q n c := by
 rcases h.2 with ⟨rfl, h0⟩ | ⟨g, cap, cur, rfl, _⟩
 ·exact ⟨none, 0, by rw [h0]⟩
 ·exact ⟨_, _, rfl⟩
set_option maxRecDepth 100000 in
set_option maxHeartbeats 1000000 in
theorem octW_any (K : Nat → Prop) (p : Nat) (b : List UInt8) (f : Bool) (k : Nat) (w : World) (h : PortIs K w 117 p (.wr b f)) (hk : k < 256) (hl : b.length ≤ 1000000) :
  Calls Tryz.prog 184 #[.pointer (some ⟨p, 0, none⟩), .int .u8 (k : Int)] w fun e w' => e = .returned (.int .u8 (k : Int)) ∧ PortIs K w' 117 p (.wr (b ++ [UInt8.ofNat k]) f) ∧ Kept K w w' := by
 obtain ⟨hout, hlt, _, v, h1, h2, h3⟩ := h
 obtain ⟨q0, c0, rfl⟩ := own_form h2
 have hp : p < w.heap.size := (Array.getElem?_eq_some_iff.1 h1).1
 have c1 := cellR (k := 1) h1 rfl
 obtain ⟨i0, hi0, hz0, hz1, hz2⟩ := info5
 have hz0' : Hid (i0.zero = some (.int .u8 0)) := hz0
 have HH1 : Hid (w.heap[p]? = some (.cells #[.bool f, .slice q0 b.length c0] 122 (0, 0))) := h1
 have HH2 : Hid (w.ownsRow 0 5 1 (.slice q0 b.length c0) b.length (u8c b)) := h2
 have HH3 : Hid (∀ g, (Value.slice q0 b.length c0).ownBlock = some g → ¬ K g ∧ g ≠ p) := h3
 have HLT : Hid (∀ b, K b → b < w.heap.size) := hlt
 have HO : Hid (¬ K p) := hout
 have HL : Hid (b.length ≤ 1000000) := hl
 have HC : Hid ([Value.int .u8 (k : Int)] = u8c [UInt8.ofNat k]) := by show _ = _; simp [u8c, Nat.mod_eq_of_lt hk]
 clear h1 h2 h3 hlt hout hl hz0
 go_enter Tryz.func184, Tryz.ntmps184
 go_wp2_with (at_builtin; go_loud (refine wpList_append_own_at _ rfl _ _ 120 rfl 0 5 i0 _ 1 1 Tryz.underlying120 hi0 hz0'.out hz1 hz2 rfl (by decide) (.slice q0 b.length c0) b.length (u8c b) rfl (ownsRow_of_block HH2.out (fun g hg => heap_alloc_old _ _ _ (ownsRow_lt HH2.out g hg))) ⟨_, 0, none⟩ 1 1 [.int .u8 (k : Int)] rfl rfl (cell_one_new _ _ _) (fun x hx => by simp at hx; subst hx; rfl) (by unfold maxLen; have := HL.out; omega) (by have := HL.out; omega) (by simp) ?_; intro v' w3 hown' hgrow3 hnil3 hob3; obtain ⟨q', c', rfl⟩ := own_form hown'; have hp3 : w3.heap[p]? = some (.cells #[.bool f, .slice q0 b.length c0] 122 (0, 0)) := (by rw [hgrow3.block p (by simp; omega) (fun e => (HH3.out p e.symm).2 rfl), heap_alloc_old _ _ _ hp]; exact HH1.out); have d1 := cellR (k := 1) hp3 rfl; have fz := frozen_zero hp3 1; have HP3 : Hid (w3.heap[p]? = some (.cells #[.bool f, .slice q0 b.length c0] 122 (0, 0))) := hp3; have HOW : Hid (w3.ownsRow 0 5 1 (.slice q' (b.length + 1) c') (b.length + 1) (u8c b ++ [.int .u8 (k : Int)])) := hown'; have HGR : Hid ((w.alloc (.cells #[.int .u8 (k : Int)] 5)).grownBy w3 (Value.slice q0 b.length c0).ownBlock) := hgrow3; have HOB : Hid ((Value.slice q' (b.length + 1) c').ownBlock = (Value.slice q0 b.length c0).ownBlock ∨ (Value.slice q' (b.length + 1) c').ownBlock = some (w.heap.size + 1)) := (by show _ ∨ _; simpa using hob3); clear hp3 hown' hgrow3 hnil3 hob3))
 go_ret
 have hne : ∀ g, (Value.slice q' (b.length + 1) c').ownBlock = some g → ¬ K g ∧ g ≠ p := fun g hg => by
  rcases HOB.out with e | e
  ·exact HH3.out g (by rw [← e]; exact hg)
  ·rw [e] at hg
   simp only [Option.some.injEq] at hg
   exact ⟨fun hk => by have := HLT.out g hk; omega, by omega⟩
 have hs3 : w.heap.size ≤ w3.heap.size := by have := HGR.out.size; simp at this; omega
 refine ⟨rfl, ⟨HO.out, fun x hx => by rw [set_size HP3.out]; exact Nat.lt_of_lt_of_le (HLT.out x hx) hs3, rfl, .slice q' (b.length + 1) c', set1_two HP3.out _, ?_, hne⟩, ?_⟩
 ·refine ownsRow_of_block ?_ (fun g hg => set_other HP3.out _ (hne g hg).2)
  rw [u8c_append, ← HC.out, List.length_append]
  exact HOW.out
 ·exact (((Kept.refl K w).alloc HLT.out _).grown HGR.out HLT.out (fun x hx => (HH3.out x hx).1)).set HP3.out _ HO.out
end Go.Proofs.YtajomnfeicfdlaaGreatDoor
/- What the blank's and the writer's other functions answer. -/
namespace Go.Proofs.YtajomnfeicfdlaaGreatDoor
open Go.Shelf Go.RowKit Go.Lib
set_option linter.unusedVariables false
set_option linter.unusedSimpArgs false
attribute [local go_sem ↓] Go.wp_at_zero Go.wp_at_succ
set_option maxHeartbeats 1000000 in
theorem numB_any (K : Nat → Prop) (p : Nat) (f : Bool) (n : Nat) (w : World) (h : PortIs K w 123 p (.bl f)) :
  Calls Tryz.prog 186 #[.pointer (some ⟨p, 0, none⟩), .int .u64 (n : Int)] w fun e w' => e = .returned (.int .u64 (n : Int)) ∧ PortIs K w' 123 p (if n = 0 then .bl f else .bl true) ∧ Kept K w w' := by
 have C : Hid (Calls Tryz.prog 182 #[.pointer (some ⟨p, 0, none⟩)] w fun e w' => e = .returned (.tuple #[]) ∧ PortIs K w' 123 p (.bl true) ∧ Kept K w w') := fail_any K 123 p (.bl f) w h
 have HP : Hid (PortIs K w 123 p (.bl f)) := h
 clear h
 by_cases h0 : n = 0
 ·subst h0
  rw [if_pos rfl]
  go_enter Tryz.func186, Tryz.ntmps186
  go_wp2_with fail
  go_ret
  exact ⟨rfl, HP.out, Kept.refl _ _⟩
 ·rw [if_neg h0]
  have z0 : ((n : Int) != 0) = true := by simp; omega
  clear h0
  go_enter Tryz.func186, Tryz.ntmps186
  go_wp2_with fail
  refine C.out.mono ?_
  rintro e w1 ⟨rfl, h1, h2⟩
  have H1 : Hid (PortIs K w1 123 p (.bl true) ∧ Kept K w w1) := ⟨h1, h2⟩
  clear h1 h2 C
  go_wp2_with fail
  go_ret
  exact ⟨rfl, H1.out⟩
set_option maxHeartbeats 1000000 in
theorem octB_any (K : Nat → Prop) (p : Nat) (f : Bool) (k : Nat) (w : World) (h : PortIs K w 123 p (.bl f)) (hk : k < 256) :
  Calls Tryz.prog 187 #[.pointer (some ⟨p, 0, none⟩), .int .u8 (k : Int)] w fun e w' => e = .returned (.int .u8 (k : Int)) ∧ PortIs K w' 123 p (if k = 0 then .bl f else .bl true) ∧ Kept K w w' := by
 have C : Hid (Calls Tryz.prog 186 #[.pointer (some ⟨p, 0, none⟩), .int .u64 (k : Int)] w fun e w' => e = .returned (.int .u64 (k : Int)) ∧ PortIs K w' 123 p (if k = 0 then .bl f else .bl true) ∧ Kept K w w') := numB_any K p f k w h
 obtain ⟨st, hst⟩ : ∃ st, (if k = 0 then St.bl f else .bl true) = st := ⟨_, rfl⟩
 rw [hst] at C ⊢
 clear h hst
 go_enter Tryz.func187, Tryz.ntmps187
 go_wp2_with fail
 refine C.out.mono ?_
 rintro e w1 ⟨rfl, h1, h2⟩
 have H1 : Hid (PortIs K w1 123 p st ∧ Kept K w w1) := ⟨h1, h2⟩
 clear h1 h2 C
 go_wp2_with fail
 go_ret
 exact ⟨rfl, H1.out⟩
set_option maxHeartbeats 1000000 in
theorem txtB_any (K : Nat → Prop) (p : Nat) (f : Bool) (s : ByteArray) (w : World) (h : PortIs K w 123 p (.bl f)) (hs : s.size ≤ 140737488355328) :
  Calls Tryz.prog 188 #[.pointer (some ⟨p, 0, none⟩), .string s] w fun e w' => e = .returned (.string s) ∧ PortIs K w' 123 p (if s.size = 0 then .bl f else .bl true) ∧ Kept K w w' := by
 have C : Hid (Calls Tryz.prog 186 #[.pointer (some ⟨p, 0, none⟩), .int .u64 (s.size : Int)] w fun e w' => e = .returned (.int .u64 (s.size : Int)) ∧ PortIs K w' 123 p (if s.size = 0 then .bl f else .bl true) ∧ Kept K w w') := numB_any K p f s.size w h
 obtain ⟨st, hst⟩ : ∃ st, (if s.size = 0 then St.bl f else .bl true) = st := ⟨_, rfl⟩
 rw [hst] at C ⊢
 clear h hst
 go_enter Tryz.func188, Tryz.ntmps188
 go_wp2_with fail
 refine C.out.mono ?_
 rintro e w1 ⟨rfl, h1, h2⟩
 have H1 : Hid (PortIs K w1 123 p st ∧ Kept K w w1) := ⟨h1, h2⟩
 clear h1 h2 C
 go_wp2_with fail
 go_ret
 exact ⟨rfl, H1.out⟩
theorem vnF_step (g left : Nat) (h : 128 ≤ left) : vnF (g + 1) left = UInt8.ofNat (left % 128 + 128) :: vnF g (left / 128) := by
 rw [vnF, if_neg (by omega)]
theorem vnF_last (g left : Nat) (h : left < 128) : vnF g left = [UInt8.ofNat left] := by
 cases g with
 | zero => rfl
 | succ g => rw [vnF, if_pos h]
set_option maxRecDepth 100000 in
set_option maxHeartbeats 1000000 in
theorem numW_any (K : Nat → Prop) (p : Nat) (b : List UInt8) (f : Bool) (n : Nat) (w : World) (h : PortIs K w 117 p (.wr b f)) (hn : n < 18446744073709551616) (hl : b.length + 20 ≤ 1000000) :
  Calls Tryz.prog 183 #[.pointer (some ⟨p, 0, none⟩), .int .u64 (n : Int)] w fun e w' => e = .returned (.int .u64 (n : Int)) ∧ PortIs K w' 117 p (.wr (b ++ vn n) f) ∧ Kept K w w' := by
 have C : Hid (∀ (W : World) (c : List UInt8) (k : Nat), PortIs K W 117 p (.wr c f) → k < 256 → c.length ≤ 1000000 → Calls Tryz.prog 184 #[.pointer (some ⟨p, 0, none⟩), .int .u8 (k : Int)] W fun e w' => e = .returned (.int .u8 (k : Int)) ∧ PortIs K w' 117 p (.wr (c ++ [UInt8.ofNat k]) f) ∧ Kept K W w') := fun W c k h1 h2 h3 => octW_any K p c f k W h1 h2 h3
 have HP : Hid (PortIs K w 117 p (.wr b f)) := h
 have HL : Hid (b.length + 20 ≤ 1000000) := hl
 have HN : Hid (n < 18446744073709551616) := hn
 clear h hl hn
 go_enter Tryz.func183, Tryz.ntmps183
 go_wp2_with fail
 go_loopg [5] 9 (fun gf s3 wx => ∃ (left : Nat) (pre : List UInt8), s3 = .int .u64 (left : Int) ∧ Hid (vn n = pre ++ vnF gf left) ∧ Hid (left < 2 * 128 ^ gf) ∧ Hid (pre.length + gf = 9) ∧ Hid (PortIs K wx 117 p (.wr (b ++ pre) f) ∧ Kept K w wx))
 case atStart => exact ⟨n, [], rfl, rfl, by have := HN.out; show _ < _; omega, rfl, by rw [List.append_nil]; exact ⟨HP.out, Kept.refl _ _⟩⟩
 case round =>
  obtain ⟨left, pre, rfl, H1, H2, H3, H4⟩ := hrel
  have h64 : left < 18446744073709551616 := by
   have h1 := H2.out
   have h2 : 128 ^ gk ≤ 128 ^ 9 := Nat.pow_le_pow_right (by decide) (by have := H3.out; omega)
   have h3 : (128 : Nat) ^ 9 = 9223372036854775808 := by decide
   omega
  by_cases hb : 128 ≤ left
  ·obtain ⟨g', rfl⟩ : ∃ g', gk = g' + 1 := by
    cases gk with
    | zero => exact absurd H2.out (by show ¬ left < 2; omega)
    | succ g' => exact ⟨g', rfl⟩
   have z0 : (128 : Int) ≤ (left : Int) := by omega
   have C1 : Hid (Calls Tryz.prog 184 #[.pointer (some ⟨p, 0, none⟩), .int .u8 ((left : Int) % 128 + 128)] wr fun e w' => e = .returned (.int .u8 ((left : Int) % 128 + 128)) ∧ PortIs K w' 117 p (.wr (b ++ pre ++ [UInt8.ofNat (left % 128 + 128)]) f) ∧ Kept K wr w') := by
    have := C.out wr (b ++ pre) (left % 128 + 128) H4.out.1 (by omega) (by have h1 := HL.out; have h2 := H3.out; simp; omega)
    rw [show ((left % 128 + 128 : Nat) : Int) = (left : Int) % 128 + 128 by omega] at this
    exact this
   have HR : Hid (128 ≤ left) := hb
   clear hb
   go_wp2_with fail
   refine C1.out.mono ?_
   rintro e w1 ⟨rfl, h1, h2⟩
   have H5 : Hid (PortIs K w1 117 p (.wr (b ++ pre ++ [UInt8.ofNat (left % 128 + 128)]) f) ∧ Kept K w w1) := ⟨h1, H4.out.2.trans h2⟩
   clear h1 h2 C1 H4
   go_wp2_with fail
   go_roundg g'
   case measure => omega
   case rel =>
    refine ⟨left / 128, pre ++ [UInt8.ofNat (left % 128 + 128)], by go_num, ?_, ?_, ?_, ?_⟩
    ·show _ = _
     rw [H1.out, vnF_step _ _ HR.out]
     simp
    ·show _ < _
     have h1 := H2.out
     rw [Nat.pow_succ] at h1
     omega
    ·have h1 := H3.out
     show _ = _
     simp
     omega
    ·rw [← List.append_assoc]
     exact H5.out
  ·have z0 : ¬ (128 : Int) ≤ (left : Int) := by omega
   have C1 : Hid (Calls Tryz.prog 184 #[.pointer (some ⟨p, 0, none⟩), .int .u8 (left : Int)] wr fun e w' => e = .returned (.int .u8 (left : Int)) ∧ PortIs K w' 117 p (.wr (b ++ pre ++ [UInt8.ofNat left]) f) ∧ Kept K wr w') := C.out wr (b ++ pre) left H4.out.1 (by omega) (by have h1 := HL.out; have h2 := H3.out; simp; omega)
   have HE : Hid (b ++ vn n = b ++ pre ++ [UInt8.ofNat left]) := by
    show _ = _
    rw [H1.out, vnF_last _ _ (by omega), List.append_assoc]
   have hb2 : left < 128 := by omega
   clear hb
   go_wp2_with fail
   refine C1.out.mono ?_
   rintro e w1 ⟨rfl, h1, h2⟩
   have H5 : Hid (PortIs K w1 117 p (.wr (b ++ vn n) f) ∧ Kept K w w1) := by rw [HE.out]; exact ⟨h1, H4.out.2.trans h2⟩
   clear h1 h2 C1 H4
   go_wp2_with fail
   go_ret
   exact ⟨rfl, H5.out⟩
theorem u8c_str (s : ByteArray) : strCells s = u8c s.data.toList := rfl
set_option maxRecDepth 100000 in
set_option maxHeartbeats 1000000 in
theorem txtW_any (K : Nat → Prop) (p : Nat) (b : List UInt8) (f : Bool) (s : ByteArray) (w : World) (h : PortIs K w 117 p (.wr b f)) (hs : s.size ≤ 140737488355328) (hl : b.length + 3000 ≤ 1000000) :
  Calls Tryz.prog 185 #[.pointer (some ⟨p, 0, none⟩), .string s] w fun e w' => e = .returned (.string s) ∧ PortIs K w' 117 p (if 2048 < s.size then .wr b true else .wr (b ++ vn s.size ++ s.data.toList) f) ∧ Kept K w w' := by
 by_cases hb : 2048 < s.size
 ·rw [if_pos hb]
  have C : Hid (Calls Tryz.prog 182 #[.pointer (some ⟨p, 0, none⟩)] w fun e w' => e = .returned (.tuple #[]) ∧ PortIs K w' 117 p (.wr b true) ∧ Kept K w w') := fail_any K 117 p (.wr b f) w h
  have z0 : (2048 : Int) < (s.size : Int) := by omega
  clear h hl hb
  go_enter Tryz.func185, Tryz.ntmps185
  go_wp2_with fail
  refine C.out.mono ?_
  rintro e w1 ⟨rfl, h1, h2⟩
  have H1 : Hid (PortIs K w1 117 p (.wr b true) ∧ Kept K w w1) := ⟨h1, h2⟩
  clear h1 h2 C
  go_wp2_with fail
  go_ret
  exact ⟨rfl, H1.out⟩
 ·rw [if_neg hb]
  have C : Hid (Calls Tryz.prog 183 #[.pointer (some ⟨p, 0, none⟩), .int .u64 (s.size : Int)] w fun e w' => e = .returned (.int .u64 (s.size : Int)) ∧ PortIs K w' 117 p (.wr (b ++ vn s.size) f) ∧ Kept K w w') := numW_any K p b f s.size w h (by omega) (by omega)
  have z0 : ¬ (2048 : Int) < (s.size : Int) := by omega
  have HL : Hid (b.length + 3000 ≤ 1000000 ∧ s.size ≤ 2048) := ⟨hl, by omega⟩
  obtain ⟨i0, hi0, hz0, hz1, hz2⟩ := info5
  have hz0' : Hid (i0.zero = some (.int .u8 0)) := hz0
  clear h hl hb hz0
  go_enter Tryz.func185, Tryz.ntmps185
  go_wp2_with fail
  refine C.out.mono ?_
  rintro e w1 ⟨rfl, h1, hK1⟩
  obtain ⟨hout, hlt, _, v, h1, h2, h3⟩ := h1
  obtain ⟨bb, hbb⟩ : ∃ bb, b ++ vn s.size = bb := ⟨_, rfl⟩
  have hbl : bb.length ≤ b.length + 10 := by rw [← hbb]; have := vn_length s.size; simp; omega
  rw [hbb] at h2
  obtain ⟨q0, c0, rfl⟩ := own_form h2
  have hp : p < w1.heap.size := (Array.getElem?_eq_some_iff.1 h1).1
  have c1 := cellR (k := 1) h1 rfl
  have HH1 : Hid (w1.heap[p]? = some (.cells #[.bool f, .slice q0 bb.length c0] 122 (0, 0))) := h1
  have HH2 : Hid (w1.ownsRow 0 5 1 (.slice q0 bb.length c0) bb.length (u8c bb)) := h2
  have HH3 : Hid (∀ g, (Value.slice q0 bb.length c0).ownBlock = some g → ¬ K g ∧ g ≠ p) := h3
  have HLT : Hid (∀ b, K b → b < w1.heap.size) := hlt
  have HO : Hid (¬ K p) := hout
  have HK1 : Hid (Kept K w w1) := hK1
  have HLB : Hid (bb.length ≤ b.length + 10) := hbl
  have HBB : Hid (b ++ vn s.size = bb) := hbb
  clear h1 h2 h3 hlt hout hK1 hbl hbb C
  go_wp2_with (at_builtin; refine wpList_append_string_at _ rfl _ _ 120 9 rfl 5 i0 Tryz.underlying120 Tryz.underlying9 hi0 hz0'.out hz1 hz2 (.slice q0 bb.length c0) bb.length (u8c bb) rfl HH2.out s rfl (by unfold maxLen; have := HL.out; have := HLB.out; omega) (by have := HL.out; have := HLB.out; omega) ?_; intro v' w3 hown' hgrow3 hob3; obtain ⟨q', c', rfl⟩ := own_form hown'; have hp3 : w3.heap[p]? = some (.cells #[.bool f, .slice q0 bb.length c0] 122 (0, 0)) := (by rw [hgrow3.block p hp (fun e => (HH3.out p e.symm).2 rfl)]; exact HH1.out); have d1 := cellR (k := 1) hp3 rfl; have fz := frozen_zero hp3 1; have HP3 : Hid (w3.heap[p]? = some (.cells #[.bool f, .slice q0 bb.length c0] 122 (0, 0))) := hp3; have HOW : Hid (w3.ownsRow 0 5 1 (.slice q' (bb.length + s.size) c') (bb.length + s.size) (u8c bb ++ strCells s)) := hown'; have HGR : Hid (w1.grownBy w3 (Value.slice q0 bb.length c0).ownBlock) := hgrow3; have HOB : Hid ((Value.slice q' (bb.length + s.size) c').ownBlock = (Value.slice q0 bb.length c0).ownBlock ∨ (Value.slice q' (bb.length + s.size) c').ownBlock = some w1.heap.size) := hob3; clear hp3 hown' hgrow3 hob3)
  go_ret
  have hne : ∀ g, (Value.slice q' (bb.length + s.size) c').ownBlock = some g → ¬ K g ∧ g ≠ p := fun g hg => by
   rcases HOB.out with e | e
   ·exact HH3.out g (by rw [← e]; exact hg)
   ·rw [e] at hg
    simp only [Option.some.injEq] at hg
    exact ⟨fun hk => by have := HLT.out g hk; omega, by omega⟩
  have hs3 : w1.heap.size ≤ w3.heap.size := HGR.out.size
  refine ⟨rfl, ⟨HO.out, fun x hx => by rw [set_size HP3.out]; exact Nat.lt_of_lt_of_le (HLT.out x hx) hs3, rfl, .slice q' (bb.length + s.size) c', set1_two HP3.out _, ?_, hne⟩, ?_⟩
  ·refine ownsRow_of_block ?_ (fun g hg => set_other HP3.out _ (hne g hg).2)
   rw [HBB.out, u8c_append, ← u8c_str, List.length_append]
   exact HOW.out
  ·exact (HK1.out.grown HGR.out (fun b hb => by have h1 := HLT.out b hb; have := HK1.out.block b hb; have h2 : b < w.heap.size := (by false_or_by_contra; rename_i hh; rw [Array.getElem?_eq_none (by omega : w.heap.size ≤ b), Array.getElem?_eq_getElem h1] at this; cases this); exact h2) (fun x hx => (HH3.out x hx).1)).set HP3.out _ HO.out
end Go.Proofs.YtajomnfeicfdlaaGreatDoor
