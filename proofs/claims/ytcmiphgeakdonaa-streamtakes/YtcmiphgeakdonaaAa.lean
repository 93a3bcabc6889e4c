/- What is taken over of the ways of lists and new memory. -/
import Derived.Test.YtcmiphgeakdonaaChecked
import Derived.Laws.StructEq
import Derived.Deep.RegionHeld3
import Derived.Deep.DrawnRows
import Derived.Deep.QuietTactic
import Derived.BigQuiet
import Derived.Lib.AppendZeros
import Derived.Laws.AppendOwnNone
import Derived.Lib.AppendZerosOnto
import Derived.Deep.MidRow
import Derived.Great.BuildSlice
import Derived.Laws.IdiomCopy
import Derived.Maps.AppendAt
import Derived.KernelRfl
import Derived.WalkKit
import Derived.WalkSpells
import Derived.WalkLawsBesides
import Derived.Lib.Walk
import Derived.Laws.RangeString
import Derived.Laws.RangeAny
import Derived.LoopTactic
import Derived.Lib.OthersKept
import Derived.Deep.LoopGhost
import Derived.Deep.DeepFit
import Derived.WalkSmall
import Derived.Laws.OwnMore
import Derived.Deep.DeepCutAuto
import Derived.Shelf.RegionOpenPlain
import Derived.Laws.CopyRow
import Derived.Laws.CopyOwn
import Derived.Laws.MakeOwn
import Derived.Deep.AppendLies
import Derived.Lib.AppendStr
import Derived.Deep.Slices
import Derived.Lib.LazyBuf
import Derived.Lib.SliceRun
import Derived.Laws.Cover1
import Derived.Laws.IdiomStrings
import Derived.Deep.RegionWith
import Derived.Shelf.Strconv.Clone
import Derived.Sort.Grow
namespace Go.Proofs.Ytcmiphgeakdonaa
open Go.Shelf Go.RowKit Go.Lib Go.Sort
set_option linter.unusedVariables false
set_option linter.unusedSimpArgs false
attribute [local go_sem ↓] Go.wp_at_zero Go.wp_at_succ
theorem hao (w : World) (o : Obj) (k : Nat) (h : k < w.heap.size) : (w.alloc o).heap[k]? = w.heap[k]? := Go.heap_alloc_old w o h
/-- A value's four fields. -/
structure Val where
  k : Int
  b : Bool
  n : Int
  s : ByteArray
/-- Blocks that are as they were. -/
structure Kept (K : Nat → Prop) (W W' : World) : Prop where
  os : W'.os = W.os
  tape : W'.tape = W.tape
  output : W'.output = W.output
  size : W.heap.size ≤ W'.heap.size
  block : ∀ b, K b → W'.heap[b]? = W.heap[b]?
theorem Kept.refl (K : Nat → Prop) (W : World) : Kept K W W := ⟨rfl, rfl, rfl, Nat.le_refl _, fun _ _ => rfl⟩
theorem Kept.trans {K : Nat → Prop} {A B C : World} (h : Kept K A B) (k : Kept K B C) : Kept K A C :=
  ⟨k.os.trans h.os, k.tape.trans h.tape, k.output.trans h.output, Nat.le_trans h.size k.size, fun b hb => (k.block b hb).trans (h.block b hb)⟩
theorem Kept.less {K L : Nat → Prop} {A B : World} (h : Kept K A B) (hl : ∀ b, L b → K b) : Kept L A B := ⟨h.os, h.tape, h.output, h.size, fun b hb => h.block b (hl b hb)⟩
theorem Kept.alloc {K : Nat → Prop} {A B : World} (h : Kept K A B) (hk : ∀ b, K b → b < A.heap.size) (o : Obj) : Kept K A (B.alloc o) :=
  ⟨h.os, h.tape, h.output, by simp; have := h.size; omega, fun b hb => by rw [hao B o b (Nat.lt_of_lt_of_le (hk b hb) h.size)]; exact h.block b hb⟩
theorem Kept.drew {K : Nat → Prop} {A B : World} (h : Kept K A B) : Kept K A B.drew := ⟨h.os, h.tape, h.output, h.size, h.block⟩
theorem Kept.cell {K : Nat → Prop} {A B : World} (h : Kept K A B) {p : Addr} (hp : K p.block) : B.cell? p = A.cell? p := World.cell?_of_block (h.block _ hp)
theorem Kept.grown {K : Nat → Prop} {A B C : World} {row : Option Nat} (h : Kept K A B) (hg : B.grownBy C row) (hk : ∀ b, K b → b < A.heap.size) (hr : ∀ b, row = some b → ¬ K b) : Kept K A C :=
  ⟨hg.os.trans h.os, hg.tape.trans h.tape, hg.output.trans h.output, Nat.le_trans h.size hg.size,
   fun b hb => (hg.block b (Nat.lt_of_lt_of_le (hk b hb) h.size) (fun e => hr b e.symm hb)).trans (h.block b hb)⟩
theorem Kept.set {K : Nat → Prop} {A B : World} {g k : Nat} (h : Kept K A B) {cur : Array Value} {t : TypeId} {fz : Nat × Nat} (hg : B.heap[g]? = some (.cells cur t fz)) (v : Value) (hn : ¬ K g) : Kept K A (B.setCell ⟨g, k, none⟩ v) := by
  rw [setCell_eq_setRow B g k cur t fz v hg]
  exact ⟨h.os, h.tape, h.output, by simp; exact h.size, fun b hb => by rw [setRow_other B g b _ (fun e => hn (e ▸ hb))]; exact h.block b hb⟩
theorem frozen_zero {w : World} {g : Nat} {cur : Array Value} {e : TypeId} (h : w.heap[g]? = some (.cells cur e (0, 0))) (j : Nat) : w.frozen? ⟨g, j, none⟩ = false := by
  simp [World.frozen?, h]
theorem cellR {W : World} {g k : Nat} {cur : Array Value} {t : TypeId} (hg : W.heap[g]? = some (.cells cur t (0, 0))) {v : Value} (h : cur[k]? = some v) : W.cell? ⟨g, k, none⟩ = some v := by simp [World.cell?, hg, h]
def Try.laysM316_ren : Go.Shelf.Ren := ⟨fun | 316 => 75 | n => n, fun | 9 => 9 | 3 => 3 | 4 => 4 | 37 => 139 | 0 => 0 | 127 => 140 | 5 => 5 | n => n, fun | n => n⟩
theorem Try.laysM316 : Go.Proofs.LaysM.n316 Try.prog Try.laysM316_ren := {
  mixed := by kernel_rfl
  f316 := Try.func75.trans (congrArg some (by kernel_rfl))
  t0 := Try.underlying0
  a0 := Try.isAgg0
  z0 := Try.sizeOf0
  v0 := Try.zeroValue0
  t3 := Try.underlying3
  a3 := Try.isAgg3
  z3 := Try.sizeOf3
  v3 := Try.zeroValue3
  t4 := Try.underlying4
  a4 := Try.isAgg4
  z4 := Try.sizeOf4
  v4 := Try.zeroValue4
  t9 := Try.underlying9
  a9 := Try.isAgg9
  z9 := Try.sizeOf9
  v9 := Try.zeroValue9
  t37 := Try.underlying139
  a37 := Try.isAgg139
  z37 := Try.sizeOf139
  v37 := Try.zeroValue139
  t127 := Try.underlying140
  a127 := Try.isAgg140
  z127 := Try.sizeOf140
  v127 := Try.zeroValue140
  t5 := Try.underlying5
  a5 := Try.isAgg5
  z5 := Try.sizeOf5
  v5 := Try.zeroValue5
  i0 := by kernel_rfl
  i3 := by kernel_rfl
  i4 := by kernel_rfl
  i5 := by kernel_rfl
  i9 := by kernel_rfl
  i37 := by kernel_rfl
  i127 := by kernel_rfl }
theorem sclone_any (s : ByteArray) (w : World) (hlim : s.size ≤ 281474976710656) : Calls Try.prog 75 #[.string s] w fun e w' => e = .returned (.string s) ∧ Below w.heap.size w w' := Any.stringslite_Clone Try.laysM316 s w hlim
theorem clone_any (s : ByteArray) (w : World) (hlim : s.size ≤ 281474976710656) : Calls Try.prog 73 #[.string s] w fun e w' => e = .returned (.string s) ∧ Below w.heap.size w w' := by
  have C : Hid (Calls Try.prog 75 #[.string s] w fun e w' => e = .returned (.string s) ∧ Below w.heap.size w w') := sclone_any s w hlim
  go_enter Try.func73, Try.ntmps73
  go_wp2_with fail
  refine C.out.mono ?_
  rintro e w1 ⟨rfl, hb⟩
  go_wp2_with fail
  go_ret
  exact ⟨rfl, hb⟩
/-- A number of 64 bits. -/
def I64 (n : Int) : Prop := -9223372036854775808 ≤ n ∧ n ≤ 9223372036854775807
/-- What cells are, in a world of which K is kept. -/
abbrev Rel (α : Type) := (Nat → Prop) → World → List Value → α → Prop
/-- .. which stays so as long as K does. -/
def Mono {α : Type} (rel : Rel α) : Prop := ∀ (K K2 : Nat → Prop) (W W' : World) cs x, (∀ b, K b → K2 b) → Kept K W W' → rel K W cs x → rel K2 W' cs x
/-- A list of parts. -/
def ListIs {α : Type} (rel : Rel α) (size bytes : Nat) (K : Nat → Prop) (W : World) (v : Value) (xs : List α) : Prop :=
  ∃ q c, v = .slice q xs.length c ∧ (xs.length * bytes ≤ 140737488355328 ∧ xs.length ≤ c) ∧ (0 < xs.length → ∃ b o, q = some ⟨b, o, none⟩ ∧ K b ∧
    ∀ j (h : j < xs.length), ∃ cs, cs.length = size ∧ (∀ i u, cs[i]? = some u → W.cell? ⟨b, o + j * size + i, none⟩ = some u) ∧ rel K W cs xs[j])
theorem ListIs.mono {α : Type} {rel : Rel α} (hm : Mono rel) {size bytes : Nat} {K K2 : Nat → Prop} {W W' : World} {v : Value} {xs : List α} (hk : ∀ b, K b → K2 b) (hW : Kept K W W') (h : ListIs rel size bytes K W v xs) : ListIs rel size bytes K2 W' v xs := by
  obtain ⟨q, c, rfl, hb, h⟩ := h
  refine ⟨q, c, rfl, hb, fun h0 => ?_⟩
  obtain ⟨b, o, rfl, hK, h⟩ := h h0
  refine ⟨b, o, rfl, hk b hK, fun j hj => ?_⟩
  obtain ⟨cs, h1, h2, h3⟩ := h j hj
  exact ⟨cs, h1, fun i u hi => by rw [hW.cell (p := ⟨b, _, none⟩) hK]; exact h2 i u hi, hm _ _ _ _ _ _ hk hW h3⟩
def small (s : ByteArray) : Prop := s.size ≤ 140737488355328
def rVal : Rel Val := fun K W cs x => cs = [.int .u8 x.k, .bool x.b, .int .i64 x.n, .string x.s] ∧ (0 ≤ x.k ∧ x.k < 256) ∧ I64 x.n ∧ small x.s
def rRow : Rel (List Val) := fun K W cs x => ∃ v, cs = [v] ∧ ListIs rVal 4 32 K W v x
theorem mVal : Mono rVal := fun K K2 W W' cs x hk hW h => h
theorem mRow : Mono rRow := fun K K2 W W' cs x hk hW ⟨v, h1, h2⟩ => ⟨v, h1, h2.mono mVal hk hW⟩
/-- A part as a value. -/
def asV : List Value → Value
  | [v] => v
  | cs => .agg cs.toArray
theorem setCell_any (w : World) (b k : Nat) (v : Value) : (w.setCell ⟨b, k, none⟩ v).heap.size = w.heap.size ∧ (w.setCell ⟨b, k, none⟩ v).os = w.os ∧ (w.setCell ⟨b, k, none⟩ v).tape = w.tape ∧ (w.setCell ⟨b, k, none⟩ v).output = w.output ∧ ∀ j, j ≠ b → (w.setCell ⟨b, k, none⟩ v).heap[j]? = w.heap[j]? := by
  unfold World.setCell
  have hm : ∀ (f : Obj → Obj) (j : Nat), j ≠ b → (w.heap.modify b f)[j]? = w.heap[j]? := fun f j hj => by
    rw [Array.getElem?_modify, if_neg (fun e => hj e.symm)]
  split
  · exact ⟨by simp, rfl, rfl, rfl, fun j hj => hm _ j hj⟩
  · exact ⟨by simp, rfl, rfl, rfl, fun j hj => hm _ j hj⟩
theorem setCells_any (b : Nat) : ∀ (vs : List Value) (o : Nat) (w : World), (w.setCells b o vs).heap.size = w.heap.size ∧ (w.setCells b o vs).os = w.os ∧ (w.setCells b o vs).tape = w.tape ∧ (w.setCells b o vs).output = w.output ∧ ∀ j, j ≠ b → (w.setCells b o vs).heap[j]? = w.heap[j]?
  | [], o, w => ⟨rfl, rfl, rfl, rfl, fun _ _ => rfl⟩
  | v :: vs, o, w => by
    obtain ⟨a1, a2, a3, a4, a5⟩ := setCell_any w b o v
    obtain ⟨b1, b2, b3, b4, b5⟩ := setCells_any b vs (o + 1) (w.setCell ⟨b, o, none⟩ v)
    exact ⟨b1.trans a1, b2.trans a2, b3.trans a3, b4.trans a4, fun j hj => (b5 j hj).trans (a5 j hj)⟩
theorem kept_of {K : Nat → Prop} {W W' : World} (hK : ∀ b, K b → b < W.heap.size) (h : Below W.heap.size W W') : Kept K W W' := ⟨h.os, h.tape, h.output, h.size, fun b hb => h.block b (hK b hb)⟩
theorem below_drewN {B : Nat} {a w : World} (h : Below B a w) (n : Nat) : Below B a (w.drewN n) := ⟨h.os, h.tape, h.output, h.size, h.block⟩
end Go.Proofs.Ytcmiphgeakdonaa
