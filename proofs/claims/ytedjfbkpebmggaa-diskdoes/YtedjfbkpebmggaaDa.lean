/- Files that lie in memory, and the order of names. -/
import Derived.Test.YtedjfbkpebmggaaChecked
import Derived.Lib.Walk
import Derived.LoopTactic
import Derived.Deep.DeepCutAuto
import Derived.Deep.LoopGhost
import Derived.Shelf.RegionOpenPlain
import Derived.Laws.CopyRow
import Derived.Laws.CopyOwn
import Derived.Laws.OwnMore
import Derived.Laws.MakeOwn
import Derived.Deep.AppendLies
import Derived.Maps.AppendAt
import Derived.Deep.Slices
import Derived.Lib.LazyBuf
import Derived.Lib.SliceRun
import Derived.Laws.IdiomCopy
import Derived.Deep.RegionHeld3
import Derived.Sort.WalkA
import Derived.Deep.DrawnRows
import Derived.Laws.Cover1
namespace Go.Proofs.Ytedjfbkpebmggaa
open Go.Shelf Go.RowKit Go.Lib Go.Sort
set_option linter.unusedVariables false
set_option linter.unusedSimpArgs false
attribute [local go_sem ↓] Go.wp_at_zero Go.wp_at_succ
/-- A file. -/
structure DF where
  n : ByteArray
  d : ByteArray
  y : Int
def DF.agg (f : DF) : Value := .agg #[.string f.n, .string f.d, .int .i64 f.y]
/-- A world behind another one, all of whose blocks are as they were. -/
structure LaterS (B : Nat) (W0 : World) where
  w : World
  h : Below B W0 w
abbrev laterInh (w : World) : Inhabited (LaterS w.heap.size w) := ⟨⟨w, Below.refl _ _⟩⟩
theorem wp_region_laterS {P : Program} {id : Nat} {Q : Exit → Act → World → Prop} {a : Act} {w : World} {l : List Oper} (hm : P.follows .mixedOrders = true) (hB : Region.lexB .any l.toArray = true)
    (h : wpQuiet P l.toArray (fun w' => ∃ p : LaterS w.heap.size w, w' = p.w) (fun a' => ∀ w', (∃ p : LaterS w.heap.size w, w' = p.w) → Q .normal a' w') l a) : (Code.region id l.toArray true).wp P Q a w :=
  wp_region_quiet (C := fun w' => ∃ p : LaterS w.heap.size w, w' = p.w) hm hB ⟨⟨w.drew, (Below.refl _ _).drew⟩, rfl⟩ (by simpa using h)
theorem calls_laterS {P : Program} {f : FuncId} {args : Array Value} {W0 : World} {p : LaterS W0.heap.size W0} {v : Value}
    (h : Calls P f args p.w fun e w' => e = .returned v ∧ Below p.w.heap.size p.w w') : Calls P f args p.w fun e w'' => e = .returned v ∧ ∃ p' : LaterS W0.heap.size W0, w'' = p'.w :=
  h.mono fun _ _ ⟨he, hb⟩ => ⟨he, ⟨_, p.h.trans (hb.mono p.h.size)⟩, rfl⟩
theorem mixedOnS : Try.prog.follows .mixedOrders = true := by kernel_rfl
theorem frozen_zero {w : World} {g : Nat} {cur : Array Value} {e : TypeId} (h : w.heap[g]? = some (.cells cur e (0, 0))) (j : Nat) : w.frozen? ⟨g, j, none⟩ = false := by
  simp [World.frozen?, h]
theorem cell_box (W : World) (vs : Array Value) (t : TypeId) (i : Nat) (v : Value) (h : vs[i]? = some v) : (W.alloc (.cells vs t)).cell? ⟨W.heap.size, i, none⟩ = some v := by
  simp only [World.cell?, heap_alloc_new]
  simpa using h
theorem one_below (w : World) (o : Obj) : Below w.heap.size w (w.alloc o) := (Below.refl _ _).alloc (Nat.le_refl _) _
theorem two_below (w : World) (o1 o2 : Obj) : Below w.heap.size w ((w.alloc o1).alloc o2) := (one_below w o1).alloc (by simp) _
theorem three_below (w : World) (o1 o2 o3 : Obj) : Below w.heap.size w (((w.alloc o1).alloc o2).alloc o3) := (two_below w o1 o2).alloc (by simp; omega) _

/-- The files' cells, in order. -/
def flat (fs : List DF) : List Value := fs.flatMap fun f => [.string f.n, .string f.d, .int .i64 f.y]
theorem flat_length : ∀ fs : List DF, (flat fs).length = fs.length * 3
  | [] => rfl
  | x :: xs => by
    have := flat_length xs
    simp only [flat, List.flatMap_cons, List.length_append, List.length_cons, List.length_nil] at this ⊢
    omega
theorem flat_one (xs : List DF) : ∀ u ∈ flat xs, u.oneCell' = true := by
  intro u hu
  simp only [flat, List.mem_flatMap] at hu
  obtain ⟨x, _, hu⟩ := hu
  simp only [List.mem_cons, List.not_mem_nil, or_false] at hu
  rcases hu with rfl | rfl | rfl <;> rfl
theorem flat_append (a b : List DF) : flat (a ++ b) = flat a ++ flat b := by simp [flat]
theorem flat_at : ∀ (xs : List DF) (j : Nat) (h : j < xs.length), (flat xs)[j * 3]? = some (.string xs[j].n) ∧ (flat xs)[j * 3 + 1]? = some (.string xs[j].d) ∧ (flat xs)[j * 3 + 2]? = some (.int .i64 xs[j].y)
  | [], _, h => by simp at h
  | x :: xs, 0, _ => by simp [flat]
  | x :: xs, j + 1, h => by
    have ih := flat_at xs j (by simpa using h)
    rw [show (j + 1) * 3 = j * 3 + 3 by omega]
    simpa [flat] using ih
/-- Files at a place of a block. -/
def FsIs (w : World) (b o : Nat) (fs : List DF) : Prop :=
  ∀ j (h : j < fs.length), w.cell? ⟨b, o + j * 3, none⟩ = some (.string fs[j].n) ∧ w.cell? ⟨b, o + j * 3 + 1, none⟩ = some (.string fs[j].d) ∧ w.cell? ⟨b, o + j * 3 + 2, none⟩ = some (.int .i64 fs[j].y)
theorem flat_cells {w : World} {blk : Nat} : ∀ (xs : List DF) (off : Nat), FsIs w blk off xs → ∀ j u, (flat xs)[j]? = some u → w.cell? ⟨blk, off + j, none⟩ = some u
  | [], _, _, j, u, hu => by simp [flat] at hu
  | x :: xs, off, h, j, u, hu => by
    have ih := flat_cells (w := w) (blk := blk) xs (off + 3) (fun i hi => by
      have := h (i + 1) (by simp; omega)
      rw [show off + (i + 1) * 3 = off + 3 + i * 3 by omega] at this
      simpa using this)
    have h0 := h 0 (by simp)
    simp only [Nat.zero_mul, Nat.add_zero, List.getElem_cons_zero] at h0
    match j with
    | 0 => simp [flat] at hu; subst hu; exact h0.1
    | 1 => simp [flat] at hu; subst hu; exact h0.2.1
    | 2 => simp [flat] at hu; subst hu; exact h0.2.2
    | j + 3 =>
      have := ih j u (by simpa [flat] using hu)
      rw [show off + (j + 3) = off + 3 + j by omega]
      exact this
theorem flat_add {w : World} {blk off : Nat} {xs : List DF} (h : FsIs w blk off xs) : ∀ j u, (flat xs)[j]? = some u → w.cell? ((⟨blk, off, none⟩ : Addr).add j) = some u := fun j u hu => by
  have hadd : (⟨blk, off, none⟩ : Addr).add j = ⟨blk, off + j, none⟩ := by unfold Addr.add; split <;> simp_all
  rw [hadd]
  exact flat_cells xs off h j u hu
/-- No text of a file is too long for any machine. -/
def SmallF (fs : List DF) : Prop := ∀ f ∈ fs, f.n.size ≤ 140737488355328 ∧ f.d.size ≤ 140737488355328
/-- A list of files that lies in memory. -/
def FsL (w : World) (v : Value) (fs : List DF) : Prop :=
  ∃ p c, v = .slice p fs.length c ∧ fs.length * 40 ≤ 140737488355328 ∧ SmallF fs ∧ (0 < fs.length → ∃ b o, p = some ⟨b, o, none⟩ ∧ b < w.heap.size ∧ FsIs w b o fs)
theorem FsIs.below {w W : World} {b o : Nat} {fs : List DF} (h : FsIs w b o fs) (hlt : b < w.heap.size) (hb : Below w.heap.size w W) : FsIs W b o fs := fun j hj => by
  rw [hb.cell (p := ⟨b, _, none⟩) hlt, hb.cell (p := ⟨b, _, none⟩) hlt, hb.cell (p := ⟨b, _, none⟩) hlt]; exact h j hj
theorem FsL.below {w W : World} {v : Value} {fs : List DF} (h : FsL w v fs) (hb : Below w.heap.size w W) : FsL W v fs := by
  obtain ⟨p, c, rfl, hl, hs, h⟩ := h
  refine ⟨p, c, rfl, hl, hs, fun h0 => ?_⟩
  obtain ⟨b, o, rfl, hlt, hc⟩ := h h0
  exact ⟨b, o, rfl, Nat.lt_of_lt_of_le hlt hb.size, hc.below hlt hb⟩
theorem FsL.small {w : World} {v : Value} {fs : List DF} (h : FsL w v fs) : SmallF fs := by obtain ⟨_, _, _, _, hs, _⟩ := h; exact hs
theorem FsL.many {w : World} {v : Value} {fs : List DF} (h : FsL w v fs) : fs.length * 40 ≤ 140737488355328 := by obtain ⟨_, _, _, hl, _, _⟩ := h; exact hl
theorem info41 : ∃ i0, Try.prog.info? 41 = some i0 ∧ i0.zero = some (.agg #[.string ⟨#[]⟩, .string ⟨#[]⟩, .int .i64 0]) ∧ i0.size = 3 ∧ i0.bytes = 40 := by
  have h1 : (Try.prog.info? 41).bind (·.zero) = some (.agg #[.string ⟨#[]⟩, .string ⟨#[]⟩, .int .i64 0]) := by kernel_rfl
  have h2 : (Try.prog.info? 41).map (·.size) = some 3 := by kernel_rfl
  have h3 : (Try.prog.info? 41).map (·.bytes) = some 40 := by kernel_rfl
  generalize Try.prog.info? 41 = i at *
  cases i with
  | none => cases h1
  | some i => exact ⟨i, rfl, h1, Option.some.inj h2, Option.some.inj h3⟩
/-- Files in memory of their own. -/
def OwnF (base : Nat) (W : World) (u : Value) (fs : List DF) : Prop := W.ownsRow base 41 3 u fs.length (flat fs)
theorem OwnF.files {base : Nat} {W : World} {u : Value} {xs : List DF} (h : OwnF base W u xs) (hm : xs.length * 40 ≤ 140737488355328) (hs : SmallF xs) : FsL W u xs := by
  obtain ⟨hl, ⟨rfl, hn⟩ | ⟨g, cap, cur, rfl, hb, hg, hnc, hcm, hcs, htake⟩⟩ := h
  · exact ⟨none, 0, by rw [hn], hm, hs, fun h => by omega⟩
  · refine ⟨_, cap, rfl, hm, hs, fun _ => ⟨g, 0, rfl, (Array.getElem?_eq_some_iff.1 hg).1, ?_⟩⟩
    intro j hj
    have hc : ∀ k v, (flat xs)[k]? = some v → W.cell? ⟨g, 0 + k, none⟩ = some v := fun k v hk => by
      rw [← htake] at hk
      rw [Nat.zero_add]
      simp only [World.cell?, hg]
      have := List.getElem?_take (l := cur.toList) (i := xs.length * 3) (j := k)
      rw [hk] at this
      split at this
      · simpa using this.symm
      · cases this
    obtain ⟨a0, a1, a2⟩ := flat_at xs j hj
    exact ⟨hc _ _ a0, hc _ _ a1, hc _ _ a2⟩

/-- The order of names, by bytes. -/
def ltB (a b : ByteArray) : Bool := Op.bytesLess a.toList b.toList
def eqB (a b : ByteArray) : Bool := a.toList == b.toList
theorem bl_irrefl : ∀ l, Op.bytesLess l l = false
  | [] => rfl
  | a :: l => by simp [Op.bytesLess, bl_irrefl l, UInt8.lt_irrefl]
theorem bl_trans : ∀ a b c, Op.bytesLess a b = true → Op.bytesLess b c = true → Op.bytesLess a c = true
  | _, _, [], _, h => by cases ‹List UInt8› <;> simp [Op.bytesLess] at h
  | [], _, _ :: _, _, _ => rfl
  | _ :: _, [], _ :: _, h, _ => by simp [Op.bytesLess] at h
  | x :: a, y :: b, z :: c, h1, h2 => by
    simp only [Op.bytesLess, Bool.or_eq_true, decide_eq_true_eq, Bool.and_eq_true, beq_iff_eq] at h1 h2 ⊢
    rcases h1 with h1 | ⟨rfl, h1⟩
    · rcases h2 with h2 | ⟨rfl, h2⟩
      · exact .inl (UInt8.lt_trans h1 h2)
      · exact .inl h1
    · rcases h2 with h2 | ⟨rfl, h2⟩
      · exact .inl h2
      · exact .inr ⟨rfl, bl_trans a b c h1 h2⟩
theorem bl_total : ∀ a b, Op.bytesLess a b = false → Op.bytesLess b a = false → a = b
  | [], [], _, _ => rfl
  | [], _ :: _, h, _ => by simp [Op.bytesLess] at h
  | _ :: _, [], _, h => by simp [Op.bytesLess] at h
  | x :: a, y :: b, h1, h2 => by
    simp only [Op.bytesLess, Bool.or_eq_false_iff, decide_eq_false_iff_not, Bool.and_eq_false_iff] at h1 h2
    have hxy : x = y := by
      have a1 := UInt8.not_lt.1 h1.1
      have a2 := UInt8.not_lt.1 h2.1
      exact UInt8.le_antisymm a2 a1
    subst hxy
    have e1 : Op.bytesLess a b = false := by exact h1.2.resolve_left (by simp)
    have e2 : Op.bytesLess b a = false := by exact h2.2.resolve_left (by simp)
    rw [bl_total a b e1 e2]
theorem eqB_iff {a b : ByteArray} : eqB a b = true ↔ a = b := by
  unfold eqB
  rw [beq_iff_eq]
  constructor
  · intro h
    have h' : a.data.toList = b.data.toList := by simpa [ByteArray.toList_eq] using h
    exact ByteArray.ext (Array.ext' h')
  · rintro rfl; rfl
theorem ltB_irrefl (a : ByteArray) : ltB a a = false := bl_irrefl _
theorem ltB_trans {a b c : ByteArray} (h1 : ltB a b = true) (h2 : ltB b c = true) : ltB a c = true := bl_trans _ _ _ h1 h2
theorem ltB_total {a b : ByteArray} (h1 : ltB a b = false) (h2 : ltB b a = false) : a = b := eqB_iff.1 (by unfold eqB; rw [bl_total _ _ h1 h2]; simp)
theorem ltB_asymm {a b : ByteArray} (h : ltB a b = true) : ltB b a = false := by
  cases e : ltB b a with
  | false => rfl
  | true => rw [← ltB_irrefl a]; exact (ltB_trans h e).symm
theorem ltB_ne {a b : ByteArray} (h : ltB a b = true) : a ≠ b := fun e => by subst e; rw [ltB_irrefl] at h; cases h
theorem leB_false {a b : ByteArray} : (ltB a b || eqB a b) = false ↔ ltB b a = true := by
  constructor
  · intro h
    rw [Bool.or_eq_false_iff] at h
    cases e : ltB b a with
    | true => rfl
    | false => rw [ltB_total h.1 e, eqB_iff.2 rfl] at h; exact absurd h.2 (by simp)
  · intro h
    rw [ltB_asymm h, Bool.false_or]
    cases e : eqB a b with
    | false => rfl
    | true => rw [eqB_iff.1 e, ltB_irrefl] at h; cases h
theorem ltB_empty (a : ByteArray) : ltB ⟨#[]⟩ a = true ↔ a ≠ ⟨#[]⟩ := by
  constructor
  · intro h e; subst e; rw [ltB_irrefl] at h; cases h
  · intro h
    cases e : ltB ⟨#[]⟩ a with
    | true => rfl
    | false =>
      refine absurd (ltB_total ?_ e) h
      unfold ltB
      have : (⟨#[]⟩ : ByteArray).toList = [] := by simp [ByteArray.toList_eq]
      rw [this]
      cases a.toList <;> rfl
end Go.Proofs.Ytedjfbkpebmggaa
