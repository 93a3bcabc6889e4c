/- Lists and new memory: what is general. -/
import Derived.Test.YtfifphfihdhlaaaGreatDoorQa
import Derived.Test.YtfifphfihdhlaaaGreatDoorLlLm
import Derived.Laws.StructEq
import Derived.Deep.RegionHeld3
import Derived.Deep.DrawnRows
import Derived.Deep.QuietTactic
import Derived.BigQuiet
import Derived.Lib.AppendZeros
import Derived.Laws.AppendOwnNone
import Derived.Lib.AppendZerosOnto
import Derived.Deep.MidRow
import Derived.Great.BuildSlice
import Derived.Laws.IdiomCopy
import Derived.Maps.AppendAt
import Derived.KernelRfl
import Derived.WalkKit
import Derived.WalkSpells
import Derived.WalkLawsBesides
import Derived.Lib.Walk
import Derived.Laws.RangeString
import Derived.Laws.RangeAny
import Derived.LoopTactic
import Derived.Lib.OthersKept
import Derived.Deep.LoopGhost
import Derived.Deep.DeepFit
import Derived.WalkSmall
import Derived.Laws.OwnMore
import Derived.Deep.DeepCutAuto
import Derived.Shelf.RegionOpenPlain
import Derived.Laws.CopyRow
import Derived.Laws.CopyOwn
import Derived.Laws.MakeOwn
import Derived.Deep.AppendLies
import Derived.Lib.AppendStr
import Derived.Deep.Slices
import Derived.Lib.LazyBuf
import Derived.Lib.SliceRun
import Derived.Laws.Cover1
import Derived.Laws.IdiomStrings
import Derived.Deep.RegionWith
import Derived.Sort.Grow
set_option maxRecDepth 100000
set_option maxHeartbeats 32000000
namespace Go.Proofs.YtfifphfihdhlaaaGreatDoor
open Tryz
open Go.Shelf Go.RowKit Go.Lib Go.Sort
set_option linter.unusedVariables false
set_option linter.unusedSimpArgs false
attribute [local go_sem ↓] Go.wp_at_zero Go.wp_at_succ
theorem hao (w : World) (o : Obj) (k : Nat) (h : k < w.heap.size) : (w.alloc o).heap[k]? = w.heap[k]? := Go.heap_alloc_old w o h
structure Kept (K : Nat → Prop) (W W' : World) : Prop where
 os : W'.os = W.os
 tape : W'.tape = W.tape
 output : W'.output = W.output
 size : W.heap.size ≤ W'.heap.size
 block : ∀ b, K b → W'.heap[b]? = W.heap[b]?
theorem Kept.refl (K : Nat → Prop) (W : World) : Kept K W W := ⟨rfl, rfl, rfl, Nat.le_refl _, fun _ _ => rfl⟩
theorem Kept.trans {K : Nat → Prop} {A B C : World} (h : Kept K A B) (k : Kept K B C) : Kept K A C :=
 ⟨k.os.trans h.os, k.tape.trans h.tape, k.output.trans h.output, Nat.le_trans h.size k.size, fun b hb => (k.block b hb).trans (h.block b hb)⟩
theorem Kept.less {K L : Nat → Prop} {A B : World} (h : Kept K A B) (hl : ∀ b, L b → K b) : Kept L A B := ⟨h.os, h.tape, h.output, h.size, fun b hb => h.block b (hl b hb)⟩
theorem Kept.alloc {K : Nat → Prop} {A B : World} (h : Kept K A B) (hk : ∀ b, K b → b < A.heap.size) (o : Obj) : Kept K A (B.alloc o) :=
 ⟨h.os, h.tape, h.output, by simp; have := h.size; omega, fun b hb => by rw [hao B o b (nlt (hk b hb) h.size)]; exact h.block b hb⟩
theorem Kept.drew {K : Nat → Prop} {A B : World} (h : Kept K A B) : Kept K A B.drew := ⟨h.os, h.tape, h.output, h.size, h.block⟩
theorem Kept.cell {K : Nat → Prop} {A B : World} (h : Kept K A B) {p : Addr} (hp : K p.block) : B.cell? p = A.cell? p := World.cell?_of_block (h.block _ hp)
theorem Kept.grown {K : Nat → Prop} {A B C : World} {row : Option Nat} (h : Kept K A B) (hg : B.grownBy C row) (hk : ∀ b, K b → b < A.heap.size) (hr : ∀ b, row = some b → ¬ K b) : Kept K A C :=
 ⟨hg.os.trans h.os, hg.tape.trans h.tape, hg.output.trans h.output, Nat.le_trans h.size hg.size,
  fun b hb => (hg.block b (nlt (hk b hb) h.size) (fun e => hr b e.symm hb)).trans (h.block b hb)⟩
theorem Kept.set {K : Nat → Prop} {A B : World} {g k : Nat} (h : Kept K A B) {cur : Array Value} {t : TypeId} {fz : Nat × Nat} (hg : B.heap[g]? = some (.cells cur t fz)) (v : Value) (hn : ¬ K g) : Kept K A (B.setCell ⟨g, k, none⟩ v) := by
 rw [setCell_eq_setRow B g k cur t fz v hg]
 exact ⟨h.os, h.tape, h.output, by simp; exact h.size, fun b hb => by rw [setRow_other B g b _ (fun e => hn (e ▸ hb))]; exact h.block b hb⟩
theorem frozen_zero {w : World} {g : Nat} {cur : Array Value} {e : TypeId} (h : w.heap[g]? = some (.cells cur e (0, 0))) (j : Nat) : w.frozen? ⟨g, j, none⟩ = false := by
 simp [World.frozen?, h]
theorem cellR {W : World} {g k : Nat} {cur : Array Value} {t : TypeId} (hg : W.heap[g]? = some (.cells cur t (0, 0))) {v : Value} (h : cur[k]? = some v) : W.cell? ⟨g, k, none⟩ = some v := by simp [World.cell?, hg, h]
def I64 (n : Int) : Prop := -9223372036854775808 ≤ n ∧ n ≤ 9223372036854775807
abbrev Rel (α : Type) := (Nat → Prop) → World → List Value → α → Prop
def Mono {α : Type} (rel : Rel α) : Prop := ∀ (K K2 : Nat → Prop) (W W' : World) cs x, (∀ b, K b → K2 b) → Kept K W W' → rel K W cs x → rel K2 W' cs x
def ListIs {α : Type} (rel : Rel α) (size bytes : Nat) (K : Nat → Prop) (W : World) (v : Value) (xs : List α) : Prop :=
 ∃ q c, v = .slice q xs.length c ∧ (xs.length * bytes ≤ 140737488355328 ∧ xs.length ≤ c) ∧ (0 < xs.length → ∃ b o, q = some ⟨b, o, none⟩ ∧ K b ∧
  ∀ j (h : j < xs.length), ∃ cs, cs.length = size ∧ (∀ i u, cs[i]? = some u → W.cell? ⟨b, o + j * size + i, none⟩ = some u) ∧ rel K W cs xs[j])
theorem ListIs.mono {α : Type} {rel : Rel α} (hm : Mono rel) {size bytes : Nat} {K K2 : Nat → Prop} {W W' : World} {v : Value} {xs : List α} (hk : ∀ b, K b → K2 b) (hW : Kept K W W') (h : ListIs rel size bytes K W v xs) : ListIs rel size bytes K2 W' v xs := by
 obtain ⟨q, c, rfl, hb, h⟩ := h
 refine ⟨q, c, rfl, hb, fun h0 => ?_⟩
 obtain ⟨b, o, rfl, hK, h⟩ := h h0
 refine ⟨b, o, rfl, hk b hK, fun j hj => ?_⟩
 obtain ⟨cs, h1, h2, h3⟩ := h j hj
 exact ⟨cs, h1, fun i u hi => by rw [hW.cell (p := ⟨b, _, none⟩) hK]; exact h2 i u hi, hm _ _ _ _ _ _ hk hW h3⟩
theorem setCell_any (w : World) (b k : Nat) (v : Value) : (w.setCell ⟨b, k, none⟩ v).heap.size = w.heap.size ∧ (w.setCell ⟨b, k, none⟩ v).os = w.os ∧ (w.setCell ⟨b, k, none⟩ v).tape = w.tape ∧ (w.setCell ⟨b, k, none⟩ v).output = w.output ∧ ∀ j, j ≠ b → (w.setCell ⟨b, k, none⟩ v).heap[j]? = w.heap[j]? := by
 unfold World.setCell
 have hm : ∀ (f : Obj → Obj) (j : Nat), j ≠ b → (w.heap.modify b f)[j]? = w.heap[j]? := fun f j hj => by
  rw [Array.getElem?_modify, if_neg (fun e => hj e.symm)]
 split
 · exact ⟨by simp, rfl, rfl, rfl, fun j hj => hm _ j hj⟩
 · exact ⟨by simp, rfl, rfl, rfl, fun j hj => hm _ j hj⟩
theorem setCells_any (b : Nat) : ∀ (vs : List Value) (o : Nat) (w : World), (w.setCells b o vs).heap.size = w.heap.size ∧ (w.setCells b o vs).os = w.os ∧ (w.setCells b o vs).tape = w.tape ∧ (w.setCells b o vs).output = w.output ∧ ∀ j, j ≠ b → (w.setCells b o vs).heap[j]? = w.heap[j]?
 | [], o, w => ⟨rfl, rfl, rfl, rfl, fun _ _ => rfl⟩
 | v :: vs, o, w => by
  obtain ⟨a1, a2, a3, a4, a5⟩ := setCell_any w b o v
  obtain ⟨b1, b2, b3, b4, b5⟩ := setCells_any b vs (o + 1) (w.setCell ⟨b, o, none⟩ v)
  exact ⟨b1.trans a1, b2.trans a2, b3.trans a3, b4.trans a4, fun j hj => (b5 j hj).trans (a5 j hj)⟩
theorem kept_of {K : Nat → Prop} {W W' : World} (hK : ∀ b, K b → b < W.heap.size) (h : Below W.heap.size W W') : Kept K W W' := ⟨h.os, h.tape, h.output, h.size, fun b hb => h.block b (hK b hb)⟩
theorem ListIs.later {α : Type} {rel : Rel α} (hm : Mono rel) {size bytes : Nat} {K : Nat → Prop} {W W' : World} {v : Value} {xs : List α} (h : ListIs rel size bytes K W v xs) (hK : ∀ b, K b → b < W.heap.size) (hb : Below W.heap.size W W') : ListIs rel size bytes K W' v xs := h.mono hm (fun _ h => h) (kept_of hK hb)
structure LaterS (B : Nat) (W0 : World) where
 w : World
 h : Below B W0 w
abbrev laterInh (w : World) : Inhabited (LaterS w.heap.size w) := ⟨⟨w, Below.refl _ _⟩⟩
theorem wp_region_laterS {P : Program} {id : Nat} {Q : Exit → Act → World → Prop} {a : Act} {w : World} {l : List Oper} (hm : P.follows .mixedOrders = true) (hB : Region.lexB .any l.toArray = true)
 (h : wpQuiet P l.toArray (fun w' => ∃ p : LaterS w.heap.size w, w' = p.w) (fun a' => ∀ w', (∃ p : LaterS w.heap.size w, w' = p.w) → Q .normal a' w') l a) : (Code.region id l.toArray true).wp P Q a w :=
 wp_region_quiet (C := fun w' => ∃ p : LaterS w.heap.size w, w' = p.w) hm hB ⟨⟨w.drew, (Below.refl _ _).drew⟩, rfl⟩ (by simpa using h)
theorem calls_laterS {P : Program} {f : FuncId} {args : Array Value} {W0 : World} {p : LaterS W0.heap.size W0} {v : Value}
 (h : Calls P f args p.w fun e w' => e = .returned v ∧ Below p.w.heap.size p.w w') : Calls P f args p.w fun e w'' => e = .returned v ∧ ∃ p' : LaterS W0.heap.size W0, w'' = p'.w :=
 h.mono fun _ _ ⟨he, hb⟩ => ⟨he, ⟨_, p.h.trans (hb.mono p.h.size)⟩, rfl⟩
theorem mixedOnS : prog.follows .mixedOrders = true := by kernel_rfl
theorem cell_of_row {W : World} {g k : Nat} {cur : Array Value} {t : TypeId} (hg : W.heap[g]? = some (.cells cur t (0, 0))) {v : Value} (h : cur[k]? = some v) : W.cell? ⟨g, k, none⟩ = some v := by simp [World.cell?, hg, h]
theorem two_belowS (w : World) (a b : Obj) : Below w.heap.size w ((w.alloc a).alloc b) :=
 ((Below.refl _ _).alloc (Nat.le_refl _) a).alloc (by simp) b
theorem two_boxes (w : World) (a b : Array Value) (t : TypeId) : ∃ W0, (w.alloc (.cells a t)).alloc (.cells b t) = W0 ∧ Below w.heap.size w W0 ∧ W0.heap.size = w.heap.size + 2 ∧
 W0.heap[w.heap.size]? = some (.cells a t (0, 0)) ∧ W0.heap[w.heap.size + 1]? = some (.cells b t (0, 0)) := by
 refine ⟨_, rfl, two_belowS _ _ _, by simp, by rw [heap_alloc_old _ _ (by simp)]; exact heap_alloc_new w _, ?_⟩
 have := heap_alloc_new (w.alloc (.cells a t)) (.cells b t)
 simpa using this
theorem part_of {cells cs : List Value} {j n size : Nat} (hc : cells.length = n * size) (hcs : cs.length = size) (hj : j < n) : ((cells ++ cs).drop (j * size)).take size = (cells.drop (j * size)).take size := by
 have h1 : j * size + size ≤ n * size := by
  have := Nat.mul_le_mul_right size (show j + 1 ≤ n by omega)
  rwa [Nat.add_mul, Nat.one_mul] at this
 rw [List.drop_append_of_le_length (by omega), List.take_append_of_le_length (by rw [List.length_drop]; omega)]
def From (B : Nat) (W : World) : Nat → Prop := fun b => B ≤ b ∧ b < W.heap.size
theorem From.lt {B : Nat} {W : World} : ∀ b, From B W b → b < W.heap.size := fun b h => h.2
def OwnR {α : Type} (rel : Rel α) (size : Nat) (te : TypeId) (base : Nat) (W : World) (u : Value) (xs : List α) : Prop :=
 ∃ (K : Nat → Prop) (cells : List Value), (∀ b, K b → base ≤ b ∧ b < W.heap.size ∧ u.ownBlock ≠ some b) ∧ W.ownsRow base te size u xs.length cells ∧ ∀ j (h : j < xs.length), rel K W ((cells.drop (j * size)).take size) xs[j]
theorem OwnR.keep {α : Type} {rel : Rel α} (hm : Mono rel) {size : Nat} {te : TypeId} {base : Nat} {W W' : World} {u : Value} {xs : List α} (h : OwnR rel size te base W u xs) (hb : Below W.heap.size W W') : OwnR rel size te base W' u xs := by
 obtain ⟨K, cells, hK, ho, hr⟩ := h
 refine ⟨K, cells, fun b h => ⟨(hK b h).1, nlt (hK b h).2.1 hb.size, (hK b h).2.2⟩, ?_, fun j hj => hm _ _ _ _ _ _ (fun _ h => h) (kept_of (fun b h => (hK b h).2.1) hb) (hr j hj)⟩
 obtain ⟨hl, ⟨rfl, hn⟩ | ⟨g, cap, cur, rfl, h1, hg, r⟩⟩ := ho
 · exact ⟨hl, .inl ⟨rfl, hn⟩⟩
 · exact ⟨hl, .inr ⟨g, cap, cur, rfl, h1, by rw [hb.block _ (gsi hg).1]; exact hg, r⟩⟩
theorem OwnR.list {α : Type} {rel : Rel α} (hm : Mono rel) {size bytes : Nat} {te : TypeId} {base : Nat} {W : World} {u : Value} {xs : List α} (h : OwnR rel size te base W u xs) (hb : xs.length * bytes ≤ 140737488355328) : ∃ p c, u = .slice p xs.length c ∧ ListIs rel size bytes (From base W) W (.slice p xs.length c) xs := by
 obtain ⟨K, cells, hK, ho, hr⟩ := h
 have hr2 : ∀ j (h : j < xs.length), rel (From base W) W ((cells.drop (j * size)).take size) xs[j] := fun j hj => hm _ _ _ _ _ _ (fun b h => ⟨(hK b h).1, (hK b h).2.1⟩) ⟨rfl, rfl, rfl, Nat.le_refl _, fun _ _ => rfl⟩ (hr j hj)
 obtain ⟨hl, ⟨rfl, hn⟩ | ⟨g, cap, cur, rfl, hbg, hg, hnc, hcm, hcs, htake⟩⟩ := ho
 · exact ⟨none, 0, by rw [hn], none, 0, by rw [hn], ⟨hb, by omega⟩, fun h => by omega⟩
 · refine ⟨_, cap, rfl, _, cap, rfl, ⟨hb, hnc⟩, fun _ => ⟨g, 0, rfl, ⟨hbg, (gsi hg).1⟩, fun j hj => ⟨_, ?_, fun i u hu => ?_, hr2 j hj⟩⟩⟩
   · have h1 : j * size + size ≤ xs.length * size := by
      have := Nat.mul_le_mul_right size (show j + 1 ≤ xs.length by omega)
      rwa [Nat.add_mul, Nat.one_mul] at this
     rw [List.length_take, List.length_drop, hl]; omega
   · have hi : i < size := by
      have := (List.getElem?_eq_some_iff.1 hu).1
      rw [List.length_take] at this; omega
     rw [List.getElem?_take_of_lt hi, List.getElem?_drop, ← htake] at hu
     have hlt : j * size + i < xs.length * size := by
      have := Nat.mul_le_mul_right size (show j + 1 ≤ xs.length by omega)
      rw [Nat.add_mul, Nat.one_mul] at this; omega
     rw [List.getElem?_take_of_lt hlt] at hu
     rw [Nat.zero_add]
     exact cell_of_row hg (by simpa using hu)
theorem addr_add (b o k : Nat) : (⟨b, o, none⟩ : Addr).add k = ⟨b, o + k, none⟩ := by unfold Addr.add; split <;> simp_all
theorem OwnR.push {α : Type} {rel : Rel α} (hm : Mono rel) {size bytes : Nat} {ts te : TypeId} {i0 : TypeInfo} {z : Value} (hu : prog.underlying ts = some (.slice te)) (hi : prog.info? te = some i0) (hz : i0.zero = some z) (hs : i0.size = size) (hby : i0.bytes = bytes) (hzs : z.cells.size = size) (hs0 : 0 < size)
 {base : Nat} {X : World} {u : Value} {xs : List α} (h : OwnR rel size te base X u xs) (hbase : base ≤ X.heap.size) {cs : List Value} {x : α} {K2 : Nat → Prop} (hcs : cs.length = size) (hone : ∀ c ∈ cs, c.oneCell' = true) (hK2 : ∀ b, K2 b → base ≤ b ∧ b < X.heap.size ∧ u.ownBlock ≠ some b) (hr : rel K2 X cs x) (hbytes : (xs.length + 1) * bytes ≤ 140737488355328) (hmax : xs.length + 1 ≤ maxLen) :
 ∃ v' X2, (Builtin.append_ #[ts, ts] ts #[u, .slice (some ⟨X.heap.size, 0, none⟩) 1 1]).run prog (X.alloc (.cells cs.toArray te)) = .ok v' X2 ∧ OwnR rel size te base X2 v' (xs ++ [x]) ∧ (∀ B w0, Below B w0 X → B ≤ base → Below B w0 X2) ∧ X.heap.size < X2.heap.size ∧ ∀ b, b < X.heap.size → u.ownBlock ≠ some b → X2.heap[b]? = X.heap[b]? := by
 obtain ⟨K, cells, hK, ho, hrr⟩ := h
 obtain ⟨X1, hX1⟩ := gen (X.alloc (.cells cs.toArray te))
 have hb1 : Below X.heap.size X X1 := by rw [← hX1]; exact (Below.refl _ _).alloc (Nat.le_refl _) _
 have hs1 : X1.heap.size = X.heap.size + 1 := by rw [← hX1]; simp
 have hg1 : X1.heap[X.heap.size]? = some (.cells cs.toArray te (0, 0)) := by rw [← hX1]; exact heap_alloc_new X _
 rw [hX1]
 have ho1 : X1.ownsRow base te size u xs.length cells := by
  obtain ⟨hl, ⟨rfl, hn⟩ | ⟨g, cap, cur, rfl, h1, hg, r⟩⟩ := ho
  · exact ⟨hl, .inl ⟨rfl, hn⟩⟩
  · exact ⟨hl, .inr ⟨g, cap, cur, rfl, h1, by rw [hb1.block _ (gsi hg).1]; exact hg, r⟩⟩
 have hnew : ∀ j v, cs[j]? = some v → X1.cell? ((⟨X.heap.size, 0, none⟩ : Addr).add j) = some v := fun j v hv => by
  rw [addr_add, Nat.zero_add]
  exact cell_of_row hg1 (by simpa using hv)
 obtain ⟨v', X2, e, ho2, h5, _, h6⟩ := run_append_own_at (P := prog) X1 base ts ts te i0 z size bytes hu hi hz hs hby hzs hs0 u xs.length cells ho1 ⟨X.heap.size, 0, none⟩ 1 1 cs (by rw [hcs, Nat.one_mul]) hnew hone hmax hbytes (by omega)
 have hsz := h5.size
 have hKeep : ∀ (Q : Nat → Prop), (∀ b, Q b → b < X.heap.size ∧ u.ownBlock ≠ some b) → Kept Q X X2 := fun Q hQ => by
  refine ⟨h5.os.trans hb1.os, h5.tape.trans hb1.tape, h5.output.trans hb1.output, by omega, fun b hb => ?_⟩
  rw [h5.block b (by have := (hQ b hb).1; omega) (fun e => (hQ b hb).2 e.symm)]
  exact hb1.block b (hQ b hb).1
 refine ⟨v', X2, e, ⟨fun b => K b ∨ K2 b, cells ++ cs, fun b hb => ?_, by rw [List.length_append]; exact ho2, fun j hj => ?_⟩, fun B w0 hb hB => ?_, by omega, fun b h1 h2 => (h5.block b (by omega) (fun e => h2 e.symm)).trans (hb1.block b h1)⟩
 · have h3 : base ≤ b ∧ b < X.heap.size ∧ u.ownBlock ≠ some b := hb.elim (hK b) (hK2 b)
   refine ⟨h3.1, by omega, fun e => ?_⟩
   rcases h6 with h6 | h6
   · rw [h6] at e; exact h3.2.2 e
   · rw [h6] at e; simp only [Option.some.injEq] at e; omega
 · by_cases hjn : j < xs.length
   · rw [part_of ho.1 hcs hjn, List.getElem_append_left hjn]
     exact hm _ _ _ _ _ _ (fun _ h => .inl h) (hKeep K (fun b h => ⟨(hK b h).2.1, (hK b h).2.2⟩)) (hrr j hjn)
   · have e2 : j = xs.length := by simp at hj; omega
     subst e2
     have hl := ho.1
     rw [List.drop_append_of_le_length (by omega), List.drop_of_length_le (by omega), List.nil_append, List.take_of_length_le (by omega), List.getElem_append_right (Nat.le_refl _)]
     simp only [Nat.sub_self, List.getElem_cons_zero]
     exact hm _ _ _ _ _ _ (fun _ h => .inr h) (hKeep K2 (fun b h => ⟨(hK2 b h).2.1, (hK2 b h).2.2⟩)) hr
 · exact Below.grown (hb.trans (hb1.mono (Nat.le_trans hB hbase))) h5 (by omega) (fun j hj => by have := (ho1.lt _ hj).1; omega)
def Two (t : TypeId) (cl : List Value) (w W : World) : Prop :=
 W.heap[w.heap.size]? = some (.cells cl.toArray t (0, 0)) ∧ (∃ z : Array Value, z.size = cl.length ∧ W.heap[w.heap.size + 1]? = some (.cells z t (0, 0))) ∧ Below w.heap.size w W
theorem Two.start (w : World) (t : TypeId) (a z : Array Value) (h : z.size = a.size) : ∃ W0, (w.alloc (.cells a t)).alloc (.cells z t) = W0 ∧ Two t a.toList w W0 ∧ W0.heap.size = w.heap.size + 2 := by
 obtain ⟨W0, h1, h2, h3, h4, h5⟩ := two_boxes w a z t
 exact ⟨W0, h1, ⟨by simpa using h4, ⟨z, by simpa using h, h5⟩, h2⟩, h3⟩
theorem Two.lt {t : TypeId} {cl : List Value} {w W : World} (h : Two t cl w W) : w.heap.size + 2 ≤ W.heap.size := by
 obtain ⟨h1, ⟨z, _, h2⟩, _⟩ := h
 have := (gsi h2).1
 omega
theorem Two.call {t : TypeId} {cl : List Value} {w W W' : World} (h : Two t cl w W) (hb : Below W.heap.size W W') : Two t cl w W' := by
 have hlt := h.lt
 obtain ⟨h1, ⟨z, hz, h2⟩, h3⟩ := h
 exact ⟨by rw [hb.block _ (by omega)]; exact h1, ⟨z, hz, by rw [hb.block _ (by omega)]; exact h2⟩, h3.trans (hb.mono h3.size)⟩
theorem Two.cell {t : TypeId} {cl : List Value} {w W : World} (h : Two t cl w W) {k : Nat} {v : Value} (hk : cl[k]? = some v) : W.cell? ⟨w.heap.size, k, none⟩ = some v := cell_of_row h.1 (by simpa using hk)
theorem Two.put {t : TypeId} {cl : List Value} {w W : World} (h : Two t cl w W) {k : Nat} (hk : k < cl.length) (v : Value) :
 ∃ W', W.setCell ⟨w.heap.size, k, none⟩ v = W' ∧ W.frozen? ⟨w.heap.size, k, none⟩ = false ∧ Two t (cl.set k v) w W' ∧ W'.heap.size = W.heap.size ∧ Kept (fun b => w.heap.size + 2 ≤ b) W W' := by
 obtain ⟨h1, ⟨z, hz, h2⟩, h3⟩ := h
 obtain ⟨a1, a2, a3, a4, a5⟩ := setCell_any W w.heap.size k v
 refine ⟨_, rfl, frozen_zero h1 k, ⟨?_, ⟨z, by simpa using hz, by rw [a5 _ (by omega)]; exact h2⟩, ⟨a2.trans h3.os, a3.trans h3.tape, a4.trans h3.output, by have := h3.size; omega, fun j hj => by rw [a5 j (by omega)]; exact h3.block j hj⟩⟩, a1, ⟨a2, a3, a4, by omega, fun b hb => a5 b (by omega)⟩⟩
 rw [heap_setCell_same W w.heap.size k cl.toArray t v h1]
 simp [List.setIfInBounds_toArray]
theorem ListIs.kept {α : Type} {rel : Rel α} (hm : Mono rel) {size bytes B : Nat} {W W' : World} {v : Value} {xs : List α} (h : ListIs rel size bytes (From B W) W v xs) (hk : Kept (fun b => B ≤ b) W W') : ListIs rel size bytes (From B W') W' v xs :=
 h.mono hm (fun b hb => ⟨hb.1, nlt hb.2 hk.size⟩) (hk.less fun b hb => hb.1)
theorem ListIs.less {α : Type} {rel : Rel α} (hm : Mono rel) {size bytes B C : Nat} {W : World} {v : Value} {xs : List α} (h : ListIs rel size bytes (From B W) W v xs) (hb : C ≤ B) : ListIs rel size bytes (From C W) W v xs :=
 h.mono hm (fun b h => ⟨by have := h.1; omega, h.2⟩) ⟨rfl, rfl, rfl, Nat.le_refl _, fun _ _ => rfl⟩
theorem Two.there {t : TypeId} {cl : List Value} {w W : World} (h : Two t cl w W) (lo n : Nat) (hl : lo + n ≤ cl.length) : W.there w.heap.size lo n := fun j hj => by
 refine ⟨?_, frozen_zero h.1 _⟩
 rw [cellR h.1 (by simpa using List.getElem?_eq_getElem (by omega : lo + j < cl.length))]
 rfl
theorem box_new (W : World) (t : TypeId) (z : Array Value) (cl : List Value) (hl : z.size = cl.length) : ∃ WA, W.alloc (.cells z t) = WA ∧ WA.there W.heap.size 0 cl.toArray.size ∧ ∃ WS, WA.setCells W.heap.size 0 cl.toArray.toList = WS ∧ WS.rangeAt W.heap.size 0 cl ∧ WS.heap.size = W.heap.size + 1 ∧ Below W.heap.size W WS ∧ ∀ V, Below WS.heap.size WS V → V.rangeAt W.heap.size 0 cl := by
 refine ⟨_, rfl, ?_⟩
 have hg : (W.alloc (.cells z t)).heap[W.heap.size]? = some (.cells z t (0, 0)) := heap_alloc_new W _
 have hB : Below W.heap.size W (W.alloc (.cells z t)) := (Below.refl _ _).alloc (Nat.le_refl _) _
 have ht : (W.alloc (.cells z t)).there W.heap.size 0 cl.length := fun j hj => by
  rw [Nat.zero_add]
  refine ⟨?_, frozen_zero hg j⟩
  rw [cellR hg (Array.getElem?_eq_getElem (by omega : j < z.size))]
  rfl
 obtain ⟨a1, a2, a3, a4, a5⟩ := setCells_any W.heap.size cl 0 (W.alloc (.cells z t))
 have hs : ((W.alloc (.cells z t)).setCells W.heap.size 0 cl).heap.size = W.heap.size + 1 := by rw [a1]; simp
 have hr := World.rangeAt_setCells_same (W.alloc (.cells z t)) W.heap.size 0 cl ht
 refine ⟨by simpa using ht, _, rfl, by simpa using hr, by simpa using hs, ?_, fun V hV => ?_⟩
 · rw [show cl.toArray.toList = cl by simp]
   exact ⟨a2.trans hB.os, a3.trans hB.tape, a4.trans hB.output, by omega, fun j hj => by rw [a5 j (by omega)]; exact hB.block j hj⟩
 · rw [show cl.toArray.toList = cl by simp] at hV
   intro j v hv
   rw [hV.cell (p := ⟨W.heap.size, _, none⟩) (by show W.heap.size < _; omega)]
   exact hr j v hv
theorem setCell_self {W : World} {g k : Nat} {cur : Array Value} {t : TypeId} {v : Value} (hg : W.heap[g]? = some (.cells cur t (0, 0))) (h : cur[k]? = some v) : W.setCell ⟨g, k, none⟩ v = W := by
 rw [setCell_eq_setRow W g k cur t (0, 0) v hg]
 have : cur.setIfInBounds k v = cur := by
  apply Array.ext_getElem?
  intro j
  by_cases e : k = j
  · subst e
    have hk : k < cur.size := (gsi h).1
    rw [Array.getElem?_setIfInBounds_self_of_lt hk, h]
  · rw [Array.getElem?_setIfInBounds_ne e]
 rw [this]
 exact setRow_self W g cur t (0, 0) hg
theorem OwnR.none {α : Type} {rel : Rel α} {size : Nat} {te : TypeId} {base : Nat} {W : World} {u : Value} (h : W.ownsRow base te size u 0 []) : OwnR rel size te base W u ([] : List α) :=
 ⟨fun _ => False, [], fun b h => h.elim, h, fun j h => by simp at h⟩
theorem wpList_load_midH {P : Program} {ops : Array Oper} {rest : List Oper} {op : Oper} {a : Act} {w : World} {Q : Exit → Act → World → Prop} (hw : Region.wanted op (yielded ops a.tmps) = true) (ty : TypeId) (x : Operand) (ho : op.op = .load ty x) (b o : Nat) (hx : a.eval x = .pointer (some ⟨b, o, none⟩)) (cs : List Value) (d : TypeDesc) (hc : w.rangeAt b o cs) (hu : P.underlying ty = some d) (hd : d.isRow = true) (hi : (P.info? ty).map (·.size) = some cs.length) (h : wpList P ops Q rest (a.put op.dst (.agg cs.toArray)) w) : wpList P ops Q (op :: rest) a w :=
 wpList_step fun K hK => by rw [if_pos hw]; exact wp_load_mid ty x ho b o hx cs d hc hu hd hi (hK _ _ h)
theorem range_box {W V : World} {b : Nat} {cl : List Value} {t : TypeId} (hg : W.heap[b]? = some (.cells cl.toArray t (0, 0))) (hb : Below W.heap.size W V) : V.rangeAt b 0 cl := fun j u hj => by
 rw [hb.cell (p := ⟨b, _, none⟩) (gsi hg).1, Nat.zero_add]
 exact cell_of_row hg (by simpa using hj)
theorem wp_append_run {P : Program} {op : Oper} {a : Act} {w : World} {K : Act → World → Prop} {Q : Exit → Act → World → Prop} (x y : Operand) (t u : TypeId) (ho : op.op = .call { callee := .builtin .append, args := #[x, y], argTypes := #[t, u] }) (v1 v2 : Value) (hx : a.eval x = v1) (hy : a.eval y = v2) (v' : Value) (w' : World) (hr : (Builtin.append_ #[t, u] op.type #[v1, v2]).run P w = .ok v' w') (h : K (a.put op.dst v') w') : op.wp P a w K Q := by
 unfold Oper.wp execOp
 simp only [ho, resolve, invoke, builtin, Sem.run_bind, Sem.run_pure, Result.andThen_ok, List.map_toArray, List.map_cons, List.map_nil, hx, hy, hr]
 exact h
theorem OwnR.kept {α : Type} {rel : Rel α} (hm : Mono rel) {size : Nat} {te : TypeId} {base : Nat} {W W' : World} {u : Value} {xs : List α} (h : OwnR rel size te base W u xs) (hk : Kept (fun b => base ≤ b) W W') : OwnR rel size te base W' u xs := by
 obtain ⟨K, cells, hK, ho, hr⟩ := h
 refine ⟨K, cells, fun b h => ⟨(hK b h).1, nlt (hK b h).2.1 hk.size, (hK b h).2.2⟩, ?_, fun j hj => hm _ _ _ _ _ _ (fun _ h => h) (hk.less fun b h => (hK b h).1) (hr j hj)⟩
 obtain ⟨hl, ⟨rfl, hn⟩ | ⟨g, cap, cur, rfl, h1, hg, r⟩⟩ := ho
 · exact ⟨hl, .inl ⟨rfl, hn⟩⟩
 · exact ⟨hl, .inr ⟨g, cap, cur, rfl, h1, by rw [hk.block _ h1]; exact hg, r⟩⟩
theorem OwnR.block {α : Type} {rel : Rel α} {size : Nat} {te : TypeId} {base : Nat} {W : World} {u : Value} {xs : List α} (h : OwnR rel size te base W u xs) : ∀ g, u.ownBlock = some g → base ≤ g ∧ g < W.heap.size := fun g hg => by
 obtain ⟨_, _, _, ho, _⟩ := h
 exact ho.lt g hg
theorem three_boxes (w : World) (a b c : Array Value) (t1 t2 t3 : TypeId) : ∃ W0, ((w.alloc (.cells a t1)).alloc (.cells b t2)).alloc (.cells c t3) = W0 ∧ Below w.heap.size w W0 ∧ W0.heap.size = w.heap.size + 3 ∧ W0.heap[w.heap.size]? = some (.cells a t1 (0, 0)) ∧ W0.heap[w.heap.size + 1]? = some (.cells b t2 (0, 0)) ∧ W0.heap[w.heap.size + 1 + 1]? = some (.cells c t3 (0, 0)) := by
 refine ⟨_, rfl, (((Below.refl _ _).alloc (Nat.le_refl _) _).alloc (by simp) _).alloc (by simp; omega) _, by simp, ?_, ?_, ?_⟩
 · rw [hao _ _ _ (by simp; omega), hao _ _ _ (by simp)]; exact heap_alloc_new w _
 · rw [hao _ _ _ (by simp)]
   have := heap_alloc_new (w.alloc (.cells a t1)) (.cells b t2)
   simpa using this
 · have := heap_alloc_new ((w.alloc (.cells a t1)).alloc (.cells b t2)) (.cells c t3)
   simpa using this
theorem one_box (w : World) (v : Value) (t : TypeId) : ∃ W1, w.alloc (.cells #[v] t) = W1 ∧ Below w.heap.size w W1 ∧ W1.heap[w.heap.size]? = some (.cells #[v] t (0, 0)) ∧ W1.heap.size = w.heap.size + 1 := ⟨_, rfl, (Below.refl _ _).alloc (Nat.le_refl _) _, heap_alloc_new w _, by simp⟩
theorem ListIs.grow {α : Type} {rel : Rel α} (hm : Mono rel) {size bytes B : Nat} {W W' : World} {v : Value} {xs : List α} (h : ListIs rel size bytes (From B W) W v xs) (hb : Below W.heap.size W W') : ListIs rel size bytes (From B W') W' v xs :=
 h.mono hm (fun b h => ⟨h.1, nlt h.2 hb.size⟩) (kept_of (fun b h => h.2) hb)
theorem put_row (V : World) (g : Nat) (z : Array Value) (t : TypeId) (hg : V.heap[g]? = some (.cells z t (0, 0))) (cl : List Value) (hl : z.size = cl.length) {d : TypeDesc} (hu : prog.underlying t = some d) (hd : d.isRow = true) (hi : (prog.info? t).map (·.size) = some cl.length) :
 V.there g 0 cl.toArray.size ∧ ∃ X, V.setCells g 0 cl.toArray.toList = X ∧ (loadVar t ⟨g, 0, none⟩).run prog X = .ok (.agg cl.toArray) X ∧ X.heap.size = V.heap.size ∧ Kept (fun b => b ≠ g) V X := by
 have ht : V.there g 0 cl.length := fun j hj => by
  rw [Nat.zero_add]
  refine ⟨?_, frozen_zero hg j⟩
  rw [cellR hg (Array.getElem?_eq_getElem (by omega : j < z.size))]
  rfl
 obtain ⟨a1, a2, a3, a4, a5⟩ := setCells_any g cl 0 V
 rw [show cl.toArray.toList = cl by simp]
 exact ⟨by simpa using ht, _, rfl, run_loadVar_mid _ _ 0 t cl _ (World.rangeAt_setCells_same V g 0 cl ht) hu hd hi, a1, ⟨a2, a3, a4, by omega, fun b hb => a5 b hb⟩⟩
theorem two_boxes2 (w : World) (a b : Array Value) (t1 t2 : TypeId) : ∃ W0, (w.alloc (.cells a t1)).alloc (.cells b t2) = W0 ∧ Below w.heap.size w W0 ∧ W0.heap.size = w.heap.size + 2 ∧ W0.heap[w.heap.size]? = some (.cells a t1 (0, 0)) ∧ W0.heap[w.heap.size + 1]? = some (.cells b t2 (0, 0)) := by
 refine ⟨_, rfl, ((Below.refl _ _).alloc (Nat.le_refl _) _).alloc (by simp) _, by simp, ?_, ?_⟩
 · rw [hao _ _ _ (by simp)]; exact heap_alloc_new w _
 · have := heap_alloc_new (w.alloc (.cells a t1)) (.cells b t2)
   simpa using this
theorem OwnR.less {α : Type} {rel : Rel α} {size : Nat} {te : TypeId} {B C : Nat} {W : World} {u : Value} {xs : List α} (h : OwnR rel size te B W u xs) (hb : C ≤ B) : OwnR rel size te C W u xs := by
 obtain ⟨K, cells, hK, ⟨hl, ho⟩, hr⟩ := h
 refine ⟨K, cells, fun b h => ⟨Nat.le_trans hb (hK b h).1, (hK b h).2⟩, ⟨hl, ?_⟩, hr⟩
 rcases ho with ho | ⟨g, cap, cur, e, h1, r⟩
 · exact .inl ho
 · exact .inr ⟨g, cap, cur, e, Nat.le_trans hb h1, r⟩
theorem owns_less {size : Nat} {te : TypeId} {B C : Nat} {W : World} {u : Value} {n : Nat} {cells : List Value} (h : W.ownsRow B te size u n cells) (hb : C ≤ B) : W.ownsRow C te size u n cells := by
 obtain ⟨hl, ho⟩ := h
 rcases ho with ho | ⟨g, cap, cur, e, h1, r⟩
 · exact ⟨hl, .inl ho⟩
 · exact ⟨hl, .inr ⟨g, cap, cur, e, Nat.le_trans hb h1, r⟩⟩
theorem owns_kept {size : Nat} {te : TypeId} {B : Nat} {W W' : World} {u : Value} {n : Nat} {cells : List Value} (h : W.ownsRow B te size u n cells) (hk : ∀ g, u.ownBlock = some g → W'.heap[g]? = W.heap[g]?) : W'.ownsRow B te size u n cells := by
 obtain ⟨hl, ho⟩ := h
 rcases ho with ho | ⟨g, cap, cur, rfl, h1, hg, r⟩
 · exact ⟨hl, .inl ho⟩
 · exact ⟨hl, .inr ⟨g, cap, cur, rfl, h1, (hk g rfl).trans hg, r⟩⟩
theorem owns_slice {size : Nat} {te : TypeId} {B : Nat} {W : World} {u : Value} {n : Nat} {cells : List Value} (h : W.ownsRow B te size u n cells) : ∃ p c, u = .slice p n c := by
 obtain ⟨hl, ⟨rfl, h0⟩ | ⟨g, cap, cur, rfl, h1, hg, r⟩⟩ := h
 · exact ⟨none, 0, by rw [h0]⟩
 · exact ⟨_, cap, rfl⟩
theorem OwnR.slice {α : Type} {rel : Rel α} {size : Nat} {te : TypeId} {B : Nat} {W : World} {u : Value} {xs : List α} (h : OwnR rel size te B W u xs) : ∃ p c, u = .slice p xs.length c := by
 obtain ⟨K, cells, hK, ho, hr⟩ := h
 exact owns_slice ho
theorem OwnR.lt {α : Type} {rel : Rel α} {size : Nat} {te : TypeId} {B : Nat} {W : World} {u : Value} {xs : List α} (h : OwnR rel size te B W u xs) : ∀ g, u.ownBlock = some g → g < W.heap.size := fun g hg => (h.block g hg).2
theorem run_append_noneC {w : World} (base : Nat) (t ty e : TypeId) (i : TypeInfo) (size c : Nat) (ht : prog.underlying t = some (.slice e)) (hi : prog.info? e = some i)
 (v : Value) (n : Nat) (xs : List Value) (hown : w.ownsRow base e size v n xs) :
 (Builtin.append_ #[t, t] ty #[v, .slice none 0 c]).run prog w = .ok v w := by
 rcases hown.2 with ⟨rfl, rfl⟩ | ⟨g, cap, cur, rfl, _, _, hnc, _⟩
 · simp [Builtin.append_, run_underlying ht, sizeOf, typeInfo, hi, Builtin.lenOf, Builtin.firstCells]
 · simp [Builtin.append_, run_underlying ht, sizeOf, typeInfo, hi, Builtin.lenOf, Builtin.firstCells, hnc, storeCells]
theorem list_cells {α : Type} {rel : Rel α} {size : Nat} {K : Nat → Prop} {W : World} {b o : Nat} {ys : List α} (h : ∀ j (h : j < ys.length), ∃ cs, cs.length = size ∧ (∀ i u, cs[i]? = some u → W.cell? ⟨b, o + j * size + i, none⟩ = some u) ∧ rel K W cs ys[j]) :
 ∀ m, m ≤ ys.length → ∃ news : List Value, news.length = m * size ∧ (∀ i u, news[i]? = some u → W.cell? ⟨b, o + i, none⟩ = some u) ∧ ∀ j (hj : j < m) (hj' : j < ys.length), rel K W ((news.drop (j * size)).take size) ys[j]
 | 0, _ => ⟨[], by simp, fun i u hu => by simp at hu, fun j hj => by omega⟩
 | m + 1, hm => by
  obtain ⟨news, h1, h2, h3⟩ := list_cells h m (by omega)
  obtain ⟨cs, k1, k2, k3⟩ := h m (by omega)
  refine ⟨news ++ cs, by rw [List.length_append, h1, k1, Nat.add_mul, Nat.one_mul], fun i u hu => ?_, fun j hj hj' => ?_⟩
  · by_cases hi : i < news.length
    · rw [List.getElem?_append_left hi] at hu
      exact h2 i u hu
    · rw [List.getElem?_append_right (by omega)] at hu
      have := k2 _ u hu
      rwa [show o + m * size + (i - news.length) = o + i by omega] at this
  · by_cases hjm : j < m
    · rw [part_of h1 k1 hjm]
      exact h3 j hjm hj'
    · have e : j = m := by omega
      subst e
      rw [List.drop_append_of_le_length (by omega), List.drop_of_length_le (by omega), List.nil_append, List.take_of_length_le (by omega)]
      exact k3
theorem part_in {cells news : List Value} {size n m j : Nat} (hl : cells.length = n * size) (hl2 : news.length = m * size) (hj : n ≤ j) : ((cells ++ news).drop (j * size)).take size = (news.drop ((j - n) * size)).take size := by
 have : n * size ≤ j * size := Nat.mul_le_mul_right size hj
 rw [List.drop_append, List.drop_of_length_le (by omega), List.nil_append, hl, Nat.sub_mul]
theorem part_be {cells news : List Value} {size n j : Nat} (hl : cells.length = n * size) (hj : j < n) : ((cells ++ news).drop (j * size)).take size = (cells.drop (j * size)).take size := by
 have : (j + 1) * size ≤ n * size := Nat.mul_le_mul_right size hj
 rw [Nat.add_mul, Nat.one_mul] at this
 rw [List.drop_append_of_le_length (by omega), List.take_append_of_le_length (by rw [List.length_drop]; omega)]
theorem OwnR.app {α : Type} {rel : Rel α} (hm : Mono rel) {size bytes : Nat} {ts te : TypeId} {i0 : TypeInfo} {z : Value} (hu : prog.underlying ts = some (.slice te)) (hi : prog.info? te = some i0) (hz : i0.zero = some z) (hs : i0.size = size) (hby : i0.bytes = bytes) (hzs : z.cells.size = size) (hs0 : 0 < size)
 {base : Nat} {X : World} {u : Value} {xs : List α} (h : OwnR rel size te base X u xs) (hbase : base ≤ X.heap.size) {q : Option Addr} {c : Nat} {ys : List α} {K2 : Nat → Prop} (hy : ListIs rel size bytes K2 X (.slice q ys.length c) ys) (hone : ∀ cs y, rel K2 X cs y → ∀ u ∈ cs, u.oneCell' = true) (hK2 : ∀ b, K2 b → base ≤ b ∧ b < X.heap.size ∧ u.ownBlock ≠ some b)
 (hbytes : (xs.length + ys.length) * bytes ≤ 140737488355328) (hmax : xs.length + ys.length ≤ maxLen) (ty : TypeId) :
 ∃ v' X2, (Builtin.append_ #[ts, ts] ty #[u, .slice q ys.length c]).run prog X = .ok v' X2 ∧ OwnR rel size te base X2 v' (xs ++ ys) ∧ Kept (fun b => b < X.heap.size ∧ u.ownBlock ≠ some b) X X2 ∧ (v'.ownBlock = u.ownBlock ∨ v'.ownBlock = some X.heap.size) := by
 obtain ⟨K, cells, hK, ho, hrr⟩ := h
 obtain ⟨q', c', e, _, hq⟩ := hy
 cases e
 have main : ∀ (a : Addr), q = some a → (∃ news : List Value, news.length = ys.length * size ∧ (∀ i u, news[i]? = some u → X.cell? (a.add i) = some u) ∧ ∀ j (hj : j < ys.length), rel K2 X ((news.drop (j * size)).take size) ys[j]) → ∃ v' X2, (Builtin.append_ #[ts, ts] ty #[u, .slice q ys.length c]).run prog X = .ok v' X2 ∧ OwnR rel size te base X2 v' (xs ++ ys) ∧ Kept (fun b => b < X.heap.size ∧ u.ownBlock ≠ some b) X X2 ∧ (v'.ownBlock = u.ownBlock ∨ v'.ownBlock = some X.heap.size) := by
  rintro a rfl ⟨news, n1, n2, n3⟩
  have hone2 : ∀ u ∈ news, u.oneCell' = true := by
   intro v hv
   obtain ⟨i, hi', rfl⟩ := List.getElem_of_mem hv
   have hdm := Nat.div_add_mod i size
   have hml := Nat.mod_lt i hs0
   have hjl : i / size < ys.length := (Nat.div_lt_iff_lt_mul hs0).2 (by omega)
   refine hone _ _ (n3 (i / size) hjl) _ ?_
   rw [List.mem_take_iff_getElem]
   have e1 : i / size * size + i % size = i := by rw [Nat.mul_comm]; exact hdm
   refine ⟨i % size, by rw [List.length_drop]; omega, ?_⟩
   rw [List.getElem_drop]
   congr 1
  obtain ⟨v', X2, e2, ho2, h5, _, h6⟩ := run_append_own_at (P := prog) X base ts ty te i0 z size bytes hu hi hz hs hby hzs hs0 u xs.length cells ho a ys.length c news n1 n2 hone2 hmax hbytes hbase
  have hk : Kept (fun b => b < X.heap.size ∧ u.ownBlock ≠ some b) X X2 := ⟨h5.os, h5.tape, h5.output, h5.size, fun b hb => h5.block b hb.1 (fun e => hb.2 e.symm)⟩
  refine ⟨v', X2, e2, ⟨fun b => K b ∨ K2 b, cells ++ news, fun b hb => ?_, by rw [List.length_append]; exact ho2, fun j hj => ?_⟩, hk, h6⟩
  · have h3 : base ≤ b ∧ b < X.heap.size ∧ u.ownBlock ≠ some b := hb.elim (hK b) (hK2 b)
    refine ⟨h3.1, nlt h3.2.1 h5.size, fun e => ?_⟩
    rcases h6 with h6 | h6
    · rw [h6] at e; exact h3.2.2 e
    · rw [h6] at e; simp only [Option.some.injEq] at e; omega
  · have hj2 : j < xs.length + ys.length := by simpa using hj
    by_cases hjn : j < xs.length
    · rw [part_be ho.1 hjn, List.getElem_append_left hjn]
      exact hm _ _ _ _ _ _ (fun _ h => .inl h) (hk.less fun b h => ⟨(hK b h).2.1, (hK b h).2.2⟩) (hrr j hjn)
    · rw [part_in ho.1 n1 (by omega), List.getElem_append_right (by omega)]
      exact hm _ _ _ _ _ _ (fun _ h => .inr h) (hk.less fun b h => ⟨(hK2 b h).2.1, (hK2 b h).2.2⟩) (n3 (j - xs.length) (by omega))
 by_cases h0 : 0 < ys.length
 · obtain ⟨b, o, rfl, hKb, hc⟩ := hq h0
   obtain ⟨news, n1, n2, n3⟩ := list_cells hc ys.length (Nat.le_refl _)
   exact main _ rfl ⟨news, n1, fun i u hu => by rw [addr_add]; exact n2 i u hu, fun j hj => n3 j hj hj⟩
 · have hnil : ys = [] := List.eq_nil_of_length_eq_zero (by omega)
   cases q with
   | some a => exact main a rfl ⟨[], by rw [hnil]; simp, fun i u hu => by simp at hu, fun j hj => by omega⟩
   | none =>
    subst hnil
    refine ⟨u, X, run_append_noneC base ts ty te i0 size c hu hi u xs.length cells ho, ?_, Kept.refl _ _, .inl rfl⟩
    rw [List.append_nil]
    exact ⟨K, cells, hK, ho, hrr⟩
def OwnK {α : Type} (K : Nat → Prop) (rel : Rel α) (size : Nat) (te : TypeId) (base : Nat) (W : World) (u : Value) (xs : List α) : Prop :=
 ∃ cells : List Value, W.ownsRow base te size u xs.length cells ∧ ∀ j (h : j < xs.length), rel K W ((cells.drop (j * size)).take size) xs[j]
theorem OwnK.app {α : Type} {rel : Rel α} (hm : Mono rel) {size bytes : Nat} {ts te : TypeId} {i0 : TypeInfo} {z : Value} (hu : prog.underlying ts = some (.slice te)) (hi : prog.info? te = some i0) (hz : i0.zero = some z) (hs : i0.size = size) (hby : i0.bytes = bytes) (hzs : z.cells.size = size) (hs0 : 0 < size)
 {base : Nat} {X : World} {u : Value} {xs : List α} {K : Nat → Prop} (h : OwnK K rel size te base X u xs) (hbase : base ≤ X.heap.size) {q : Option Addr} {c : Nat} {ys : List α} (hy : ListIs rel size bytes K X (.slice q ys.length c) ys) (hone : ∀ cs y, rel K X cs y → ∀ u ∈ cs, u.oneCell' = true) (hK : ∀ b, K b → base ≤ b ∧ b < X.heap.size ∧ u.ownBlock ≠ some b)
 (hbytes : (xs.length + ys.length) * bytes ≤ 140737488355328) (hmax : xs.length + ys.length ≤ maxLen) (ty : TypeId) :
 ∃ v' X2, (Builtin.append_ #[ts, ts] ty #[u, .slice q ys.length c]).run prog X = .ok v' X2 ∧ OwnK K rel size te base X2 v' (xs ++ ys) ∧ Kept (fun b => b < X.heap.size ∧ u.ownBlock ≠ some b) X X2 ∧ (v'.ownBlock = u.ownBlock ∨ v'.ownBlock = some X.heap.size) := by
 obtain ⟨cells, ho, hrr⟩ := h
 obtain ⟨q', c', e, _, hq⟩ := hy
 cases e
 have main : ∀ (a : Addr), q = some a → (∃ news : List Value, news.length = ys.length * size ∧ (∀ i u, news[i]? = some u → X.cell? (a.add i) = some u) ∧ ∀ j (hj : j < ys.length), rel K X ((news.drop (j * size)).take size) ys[j]) → ∃ v' X2, (Builtin.append_ #[ts, ts] ty #[u, .slice q ys.length c]).run prog X = .ok v' X2 ∧ OwnK K rel size te base X2 v' (xs ++ ys) ∧ Kept (fun b => b < X.heap.size ∧ u.ownBlock ≠ some b) X X2 ∧ (v'.ownBlock = u.ownBlock ∨ v'.ownBlock = some X.heap.size) := by
  rintro a rfl ⟨news, n1, n2, n3⟩
  have hone2 : ∀ u ∈ news, u.oneCell' = true := by
   intro v hv
   obtain ⟨i, hi', rfl⟩ := List.getElem_of_mem hv
   have hdm := Nat.div_add_mod i size
   have hml := Nat.mod_lt i hs0
   have hjl : i / size < ys.length := (Nat.div_lt_iff_lt_mul hs0).2 (by omega)
   refine hone _ _ (n3 (i / size) hjl) _ ?_
   rw [List.mem_take_iff_getElem]
   have e1 : i / size * size + i % size = i := by rw [Nat.mul_comm]; exact hdm
   refine ⟨i % size, by rw [List.length_drop]; omega, ?_⟩
   rw [List.getElem_drop]
   congr 1
  obtain ⟨v', X2, e2, ho2, h5, _, h6⟩ := run_append_own_at (P := prog) X base ts ty te i0 z size bytes hu hi hz hs hby hzs hs0 u xs.length cells ho a ys.length c news n1 n2 hone2 hmax hbytes hbase
  have hk : Kept (fun b => b < X.heap.size ∧ u.ownBlock ≠ some b) X X2 := ⟨h5.os, h5.tape, h5.output, h5.size, fun b hb => h5.block b hb.1 (fun e => hb.2 e.symm)⟩
  refine ⟨v', X2, e2, ⟨cells ++ news, by rw [List.length_append]; exact ho2, fun j hj => ?_⟩, hk, h6⟩
  · have hj2 : j < xs.length + ys.length := by simpa using hj
    by_cases hjn : j < xs.length
    · rw [part_be ho.1 hjn, List.getElem_append_left hjn]
      exact hm _ _ _ _ _ _ (fun _ h => h) (hk.less fun b h => ⟨(hK b h).2.1, (hK b h).2.2⟩) (hrr j hjn)
    · rw [part_in ho.1 n1 (by omega), List.getElem_append_right (by omega)]
      exact hm _ _ _ _ _ _ (fun _ h => h) (hk.less fun b h => ⟨(hK b h).2.1, (hK b h).2.2⟩) (n3 (j - xs.length) (by omega))
 by_cases h0 : 0 < ys.length
 · obtain ⟨b, o, rfl, hKb, hc⟩ := hq h0
   obtain ⟨news, n1, n2, n3⟩ := list_cells hc ys.length (Nat.le_refl _)
   exact main _ rfl ⟨news, n1, fun i u hu => by rw [addr_add]; exact n2 i u hu, fun j hj => n3 j hj hj⟩
 · have hnil : ys = [] := List.eq_nil_of_length_eq_zero (by omega)
   cases q with
   | some a => exact main a rfl ⟨[], by rw [hnil]; simp, fun i u hu => by simp at hu, fun j hj => by omega⟩
   | none =>
    subst hnil
    refine ⟨u, X, run_append_noneC base ts ty te i0 size c hu hi u xs.length cells ho, ?_, Kept.refl _ _, .inl rfl⟩
    rw [List.append_nil]
    exact ⟨cells, ho, hrr⟩
theorem OwnK.list {α : Type} {K P : Nat → Prop} {rel : Rel α} (hm : Mono rel) {size bytes : Nat} {te : TypeId} {base : Nat} {W : World} {u : Value} {xs : List α} (h : OwnK K rel size te base W u xs) (hK : ∀ b, K b → base ≤ b ∧ b < W.heap.size ∧ P b) (hO : ∀ g, u.ownBlock = some g → P g) (hb : xs.length * bytes ≤ 140737488355328) : ∃ p c, u = .slice p xs.length c ∧ ListIs rel size bytes (fun b => From base W b ∧ P b) W (.slice p xs.length c) xs := by
 obtain ⟨cells, ho, hr⟩ := h
 have hr2 : ∀ j (h : j < xs.length), rel (fun b => From base W b ∧ P b) W ((cells.drop (j * size)).take size) xs[j] := fun j hj => hm _ _ _ _ _ _ (fun b h => ⟨⟨(hK b h).1, (hK b h).2.1⟩, (hK b h).2.2⟩) ⟨rfl, rfl, rfl, Nat.le_refl _, fun _ _ => rfl⟩ (hr j hj)
 obtain ⟨hl, ⟨rfl, hn⟩ | ⟨g, cap, cur, rfl, hbg, hg, hnc, hcm, hcs, htake⟩⟩ := ho
 · exact ⟨none, 0, by rw [hn], none, 0, by rw [hn], ⟨hb, by omega⟩, fun h => by omega⟩
 · refine ⟨_, cap, rfl, _, cap, rfl, ⟨hb, hnc⟩, fun _ => ⟨g, 0, rfl, ⟨⟨hbg, (gsi hg).1⟩, hO g rfl⟩, fun j hj => ⟨_, ?_, fun i u hu => ?_, hr2 j hj⟩⟩⟩
   · have h1 : j * size + size ≤ xs.length * size := by
      have := Nat.mul_le_mul_right size (show j + 1 ≤ xs.length by omega)
      rwa [Nat.add_mul, Nat.one_mul] at this
     rw [List.length_take, List.length_drop, hl]; omega
   · have hi : i < size := by
      have := (List.getElem?_eq_some_iff.1 hu).1
      rw [List.length_take] at this; omega
     rw [List.getElem?_take_of_lt hi, List.getElem?_drop, ← htake] at hu
     have hlt : j * size + i < xs.length * size := by
      have := Nat.mul_le_mul_right size (show j + 1 ≤ xs.length by omega)
      rw [Nat.add_mul, Nat.one_mul] at this; omega
     rw [List.getElem?_take_of_lt hlt] at hu
     rw [Nat.zero_add]
     exact cell_of_row hg (by simpa using hu)
theorem OwnK.kept {α : Type} {K : Nat → Prop} {rel : Rel α} (hm : Mono rel) {size : Nat} {te : TypeId} {base : Nat} {W W' : World} {u : Value} {xs : List α} (h : OwnK K rel size te base W u xs) (hk : Kept (fun b => K b ∨ u.ownBlock = some b) W W') : OwnK K rel size te base W' u xs := by
 obtain ⟨cells, o, r⟩ := h
 exact ⟨cells, owns_kept o (fun g hg => hk.block g (.inr hg)), fun j hj => hm _ _ _ _ _ _ (fun _ h => h) (hk.less fun _ h => .inl h) (r j hj)⟩
theorem box_put {W : World} {B : Nat} {cl : List Value} {t : TypeId} (hg : W.heap[B]? = some (.cells cl.toArray t (0, 0))) {k : Nat} {u : Value} (hk : cl[k]? = some u) (v : Value) : ∃ V, W.setCell ⟨B, k, none⟩ v = V ∧ W.cell? ⟨B, k, none⟩ = some u ∧ W.frozen? ⟨B, k, none⟩ = false ∧ V.heap[B]? = some (.cells (cl.set k v).toArray t (0, 0)) ∧ V.heap.size = W.heap.size ∧ Kept (fun b => b ≠ B) W V := by
 obtain ⟨a1, a2, a3, a4, a5⟩ := setCell_any W B k v
 refine ⟨_, rfl, cell_of_row hg (by simpa using hk), frozen_zero hg k, ?_, a1, ⟨a2, a3, a4, by omega, a5⟩⟩
 rw [heap_setCell_same W B k cl.toArray t v hg]
 simp
theorem box_full (W : World) (B : Nat) (z : Array Value) (t : TypeId) (hg : W.heap[B]? = some (.cells z t (0, 0))) (cl : List Value) (hl : z.size = cl.length) : (W.setCells B 0 cl.toArray.toList).heap[B]? = some (.cells cl.toArray t (0, 0)) := by
 have key : ∀ (cs : List Value) (o : Nat) (V : World) (zz : Array Value), V.heap[B]? = some (.cells zz t (0, 0)) → ∃ zz' : Array Value, (V.setCells B o cs).heap[B]? = some (.cells zz' t (0, 0)) ∧ zz'.size = zz.size ∧ (∀ k, k < o → zz'[k]? = zz[k]?) ∧ (∀ k, o + cs.length ≤ k → zz'[k]? = zz[k]?) ∧ (∀ j (u : Value), cs[j]? = some u → o + j < zz.size → zz'[o + j]? = some u) := by
  intro cs
  induction cs with
  | nil => intro o V zz h; exact ⟨zz, h, rfl, fun _ _ => rfl, fun _ _ => rfl, fun j u hu => by simp at hu⟩
  | cons v vs ih =>
   intro o V zz h
   have h1 : (V.setCell ⟨B, o, none⟩ v).heap[B]? = some (.cells (zz.setIfInBounds o v) t (0, 0)) := heap_setCell_same V B o zz t v h
   obtain ⟨z2, a1, a2, a3, a4, a5⟩ := ih (o + 1) _ _ h1
   refine ⟨z2, a1, by simpa using a2, fun k hk => ?_, fun k hk => ?_, fun j u hu hlt => ?_⟩
   · rw [a3 k (by omega), Array.getElem?_setIfInBounds_ne (by omega)]
   · rw [a4 k (by simp only [List.length_cons] at hk; omega), Array.getElem?_setIfInBounds_ne (by simp only [List.length_cons] at hk; omega)]
   · cases j with
     | zero =>
      simp only [List.getElem?_cons_zero, Option.some.injEq] at hu
      rw [Nat.add_zero, a3 o (by omega), Array.getElem?_setIfInBounds_self_of_lt (by omega), hu]
     | succ j =>
      simp only [List.getElem?_cons_succ] at hu
      have := a5 j u hu (by simp; omega)
      rwa [show o + 1 + j = o + (j + 1) by omega] at this
 obtain ⟨zz', a1, a2, _, _, a5⟩ := key cl 0 W z hg
 rw [show cl.toArray.toList = cl by simp, a1]
 congr 2
 apply Array.ext_getElem?
 intro i
 by_cases hi : i < cl.length
 · have := a5 i cl[i] (List.getElem?_eq_getElem hi) (by omega)
   rw [Nat.zero_add] at this
   rw [this]; simp [hi]
 · rw [Array.getElem?_eq_none (by omega), Array.getElem?_eq_none (by simp; omega)]
def Flat {α : Type} (rel : Rel α) : Prop := (∀ K K' W W' cs x, rel K W cs x → rel K' W' cs x) ∧ ∀ K W cs x, rel K W cs x → ∀ u ∈ cs, u.oneCell' = true
theorem own_list {α : Type} {rel : Rel α} (hf : Flat rel) {base te size bytes : Nat} {W' : World} {v' : Value} {xs : List α} {cells : List Value} {K : Nat → Prop} {W : World} (hown : W'.ownsRow base te size v' xs.length cells) (hb : xs.length * bytes ≤ 140737488355328)
 (hr : ∀ j (h : j < xs.length), rel K W ((cells.drop (j * size)).take size) xs[j]) : ListIs rel size bytes (From base W') W' v' xs := by
 obtain ⟨hl, ⟨rfl, hn⟩ | ⟨g, cap, cur, rfl, hbg, hg, hnc, hcm, hcs, htake⟩⟩ := hown
 · exact ⟨none, 0, by rw [hn], ⟨hb, by omega⟩, fun h => by omega⟩
 · refine ⟨_, cap, rfl, ⟨hb, hnc⟩, fun _ => ⟨g, 0, rfl, ⟨hbg, (gsi hg).1⟩, fun j hj => ⟨_, ?_, fun i u hu => ?_, hf.1 _ _ _ _ _ _ (hr j hj)⟩⟩⟩
   · have h1 : j * size + size ≤ xs.length * size := by
      have := Nat.mul_le_mul_right size (show j + 1 ≤ xs.length by omega)
      rwa [Nat.add_mul, Nat.one_mul] at this
     rw [List.length_take, List.length_drop, hl]; omega
   · have hi : i < size := by
      have := (List.getElem?_eq_some_iff.1 hu).1
      rw [List.length_take] at this; omega
     rw [List.getElem?_take_of_lt hi, List.getElem?_drop, ← htake] at hu
     have hlt : j * size + i < xs.length * size := by
      have := Nat.mul_le_mul_right size (show j + 1 ≤ xs.length by omega)
      rw [Nat.add_mul, Nat.one_mul] at this; omega
     rw [List.getElem?_take_of_lt hlt] at hu
     rw [Nat.zero_add]
     exact cell_of_row hg (by simpa using hu)
theorem OwnK.push {α : Type} {rel : Rel α} (hm : Mono rel) {size bytes : Nat} {ts te : TypeId} {i0 : TypeInfo} {z : Value} (hu : prog.underlying ts = some (.slice te)) (hi : prog.info? te = some i0) (hz : i0.zero = some z) (hs : i0.size = size) (hby : i0.bytes = bytes) (hzs : z.cells.size = size) (hs0 : 0 < size)
 {base : Nat} {X : World} {u : Value} {xs : List α} {K : Nat → Prop} (h : OwnK K rel size te base X u xs) (hbase : base ≤ X.heap.size) {cs : List Value} {x : α} (hcs : cs.length = size) (hone : ∀ c ∈ cs, c.oneCell' = true) (hK : ∀ b, K b → b < X.heap.size ∧ u.ownBlock ≠ some b) (hr : rel K X cs x) (hbytes : (xs.length + 1) * bytes ≤ 140737488355328) (hmax : xs.length + 1 ≤ maxLen) :
 ∃ v' X2, (Builtin.append_ #[ts, ts] ts #[u, .slice (some ⟨X.heap.size, 0, none⟩) 1 1]).run prog (X.alloc (.cells cs.toArray te)) = .ok v' X2 ∧ OwnK K rel size te base X2 v' (xs ++ [x]) ∧ Kept (fun b => b < X.heap.size ∧ u.ownBlock ≠ some b) X X2 := by
 obtain ⟨cells, ho, hrr⟩ := h
 obtain ⟨X1, hX1⟩ := gen (X.alloc (.cells cs.toArray te))
 have hb1 : Below X.heap.size X X1 := by rw [← hX1]; exact (Below.refl _ _).alloc (Nat.le_refl _) _
 have hs1 : X1.heap.size = X.heap.size + 1 := by rw [← hX1]; simp
 have hg1 : X1.heap[X.heap.size]? = some (.cells cs.toArray te (0, 0)) := by rw [← hX1]; exact heap_alloc_new X _
 rw [hX1]
 have ho1 : X1.ownsRow base te size u xs.length cells := by
  obtain ⟨hl, ⟨rfl, hn⟩ | ⟨g, cap, cur, rfl, h1, hg, r⟩⟩ := ho
  · exact ⟨hl, .inl ⟨rfl, hn⟩⟩
  · exact ⟨hl, .inr ⟨g, cap, cur, rfl, h1, by rw [hb1.block _ (gsi hg).1]; exact hg, r⟩⟩
 have hnew : ∀ j v, cs[j]? = some v → X1.cell? ((⟨X.heap.size, 0, none⟩ : Addr).add j) = some v := fun j v hv => by
  rw [addr_add, Nat.zero_add]
  exact cell_of_row hg1 (by simpa using hv)
 obtain ⟨v', X2, e, ho2, h5, _, h6⟩ := run_append_own_at (P := prog) X1 base ts ts te i0 z size bytes hu hi hz hs hby hzs hs0 u xs.length cells ho1 ⟨X.heap.size, 0, none⟩ 1 1 cs (by rw [hcs, Nat.one_mul]) hnew hone hmax hbytes (by omega)
 have hsz := h5.size
 have hKeep : ∀ (Q : Nat → Prop), (∀ b, Q b → b < X.heap.size ∧ u.ownBlock ≠ some b) → Kept Q X X2 := fun Q hQ => by
  refine ⟨h5.os.trans hb1.os, h5.tape.trans hb1.tape, h5.output.trans hb1.output, by omega, fun b hb => ?_⟩
  rw [h5.block b (by have := (hQ b hb).1; omega) (fun e => (hQ b hb).2 e.symm)]
  exact hb1.block b (hQ b hb).1
 refine ⟨v', X2, e, ⟨cells ++ cs, by rw [List.length_append]; exact ho2, fun j hj => ?_⟩, hKeep _ fun b h => h⟩
 by_cases hjn : j < xs.length
 · rw [part_of ho.1 hcs hjn, List.getElem_append_left hjn]
   exact hm _ _ _ _ _ _ (fun _ h => h) (hKeep K hK) (hrr j hjn)
 · have e2 : j = xs.length := by simp at hj; omega
   subst e2
   have hl := ho.1
   rw [List.drop_append_of_le_length (by omega), List.drop_of_length_le (by omega), List.nil_append, List.take_of_length_le (by omega), List.getElem_append_right (Nat.le_refl _)]
   simp only [Nat.sub_self, List.getElem_cons_zero]
   exact hm _ _ _ _ _ _ (fun _ h => h) (hKeep K hK) hr
theorem rgz {W : World} {b : Nat} {cl : List Value} {t : TypeId} (h : W.heap[b]? = some (.cells cl.toArray t (0, 0))) : W.rangeAt b 0 cl := fun j u hu => by rw [Nat.zero_add]; exact cell_of_row h (by simpa using hu)
abbrev Bl (w V : World) : Prop := Below w.heap.size w V
open Go.RowKit
theorem tk {P : Program} {ops : Array Oper} {Q : Exit → Act → World → Prop} {md : Region.Mode} {S : World → Prop} {oi : Oper} {fuel : Nat} {listed : Array Bool} {a : Act} {w : World} (i : Nat) (v : Value) (h1 : ops[i]? = some oi) (hy : YieldsIf P ops S oi v a) (hS : S w)
    (h : wpAnyH P md ops Q S fuel (listed.setIfInBounds i true) (a.put oi.dst v) w) (h2 : Region.noSelect ops = true := by kernel_rfl) (h3 : Region.free md ops listed i = true := by kernel_rfl) (h4 : (Region.ready md ops listed).contains i = true := by kernel_rfl)
    (h5 : ∀ (c : List PanicEntry) (a : Act) (w : World), Q (Exit.panic c) (a.put oi.dst v) w → Q (Exit.panic c) a w := by exact fun _ _ _ h => h) : wpAnyH P md ops Q S (fuel + 1) listed a w := wpAnyH_take h1 h2 h3 h4 h5 hy hS h
theorem tk0 {P : Program} {ops : Array Oper} {Q : Exit → Act → World → Prop} {md : Region.Mode} {S : World → Prop} {oi : Oper} {fuel : Nat} {listed : Array Bool} {a : Act} {w : World} (i : Nat) (v : Value) (h1 : ops[i]? = some oi) (hS : S w)
 (h : wpAnyH P md ops Q S fuel (listed.setIfInBounds i true) (a.put oi.dst v) w) (hy : YieldsIf P ops S oi v a := by exact .inl ⟨by rfl, fun W hW => by go_simp⟩) (h2 : Region.noSelect ops = true := by kernel_rfl) (h3 : Region.free md ops listed i = true := by kernel_rfl) (h4 : (Region.ready md ops listed).contains i = true := by kernel_rfl)
 (h5 : ∀ (c : List PanicEntry) (a : Act) (w : World), Q (Exit.panic c) (a.put oi.dst v) w → Q (Exit.panic c) a w := by exact fun _ _ _ h => h) : wpAnyH P md ops Q S (fuel + 1) listed a w := wpAnyH_take h1 h2 h3 h4 h5 hy hS h
end Go.Proofs.YtfifphfihdhlaaaGreatDoor
