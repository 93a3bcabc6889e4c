/- Packets that lie in memory. -/
import Derived.Test.YtnfgfbmkeiimlaaChecked
import Derived.Lib.Walk
import Derived.LoopTactic
import Derived.Deep.DeepCutAuto
import Derived.Deep.LoopGhost
import Derived.Shelf.RegionOpenPlain
import Derived.Laws.CopyRow
import Derived.Laws.OwnMore
import Derived.Laws.MakeOwn
import Derived.Deep.AppendLies
import Derived.Maps.AppendAt
import Derived.Deep.Slices
import Derived.Lib.LazyBuf
import Derived.Lib.SliceRun
import Derived.Laws.IdiomCopy
import Derived.Deep.RegionHeld3
import Derived.Sort.WalkA
import Derived.Deep.DrawnRows
import Derived.Laws.Cover1
namespace Go.Proofs.Ytnfgfbmkeiimlaa
open Go.Shelf Go.RowKit Go.Lib Go.Sort
set_option linter.unusedVariables false
set_option linter.unusedSimpArgs false
attribute [local go_sem ↓] Go.wp_at_zero Go.wp_at_succ
theorem hid {P : Prop} (h : P) : Hid P := h
/-- A packet. -/
structure PK where
  f : Int
  t : Int
  x : ByteArray
def PK.agg (k : PK) : Value := .agg #[.int .i64 k.f, .int .i64 k.t, .string k.x]
/-- A world behind another one, all of whose blocks are as they were. -/
structure LaterS (B : Nat) (W0 : World) where
  w : World
  h : Below B W0 w
abbrev laterInh (w : World) : Inhabited (LaterS w.heap.size w) := ⟨⟨w, Below.refl _ _⟩⟩
theorem wp_region_laterS {P : Program} {id : Nat} {Q : Exit → Act → World → Prop} {a : Act} {w : World} {l : List Oper} (hm : P.follows .mixedOrders = true) (hB : Region.lexB .any l.toArray = true)
    (h : wpQuiet P l.toArray (fun w' => ∃ p : LaterS w.heap.size w, w' = p.w) (fun a' => ∀ w', (∃ p : LaterS w.heap.size w, w' = p.w) → Q .normal a' w') l a) : (Code.region id l.toArray true).wp P Q a w :=
  wp_region_quiet (C := fun w' => ∃ p : LaterS w.heap.size w, w' = p.w) hm hB ⟨⟨w.drew, (Below.refl _ _).drew⟩, rfl⟩ (by simpa using h)
theorem calls_laterS {P : Program} {f : FuncId} {args : Array Value} {W0 : World} {p : LaterS W0.heap.size W0} {v : Value}
    (h : Calls P f args p.w fun e w' => e = .returned v ∧ Below p.w.heap.size p.w w') : Calls P f args p.w fun e w'' => e = .returned v ∧ ∃ p' : LaterS W0.heap.size W0, w'' = p'.w :=
  h.mono fun _ _ ⟨he, hb⟩ => ⟨he, ⟨_, p.h.trans (hb.mono p.h.size)⟩, rfl⟩
theorem mixedOnS : Try.prog.follows .mixedOrders = true := by kernel_rfl
theorem frozen_zero {w : World} {g : Nat} {cur : Array Value} {e : TypeId} (h : w.heap[g]? = some (.cells cur e (0, 0))) (j : Nat) : w.frozen? ⟨g, j, none⟩ = false := by
  simp [World.frozen?, h]
theorem cell_box (W : World) (vs : Array Value) (t : TypeId) (i : Nat) (v : Value) (h : vs[i]? = some v) : (W.alloc (.cells vs t)).cell? ⟨W.heap.size, i, none⟩ = some v := by
  simp only [World.cell?, heap_alloc_new]
  simpa using h
theorem cell_of_row {W : World} {g k : Nat} {cur : Array Value} {t : TypeId} (hg : W.heap[g]? = some (.cells cur t (0, 0))) {v : Value} (h : cur[k]? = some v) : W.cell? ⟨g, k, none⟩ = some v := by simp [World.cell?, hg, h]
theorem one_below (w : World) (o : Obj) : Below w.heap.size w (w.alloc o) := (Below.refl _ _).alloc (Nat.le_refl _) _
theorem two_below (w : World) (o1 o2 : Obj) : Below w.heap.size w ((w.alloc o1).alloc o2) := (one_below w o1).alloc (by simp) _
theorem three_below (w : World) (o1 o2 o3 : Obj) : Below w.heap.size w (((w.alloc o1).alloc o2).alloc o3) := (two_below w o1 o2).alloc (by simp; omega) _
/-- The packets' cells, in order. -/
def flat (fs : List PK) : List Value := fs.flatMap fun f => [.int .i64 f.f, .int .i64 f.t, .string f.x]
theorem flat_length : ∀ fs : List PK, (flat fs).length = fs.length * 3
  | [] => rfl
  | x :: xs => by
    have := flat_length xs
    simp only [flat, List.flatMap_cons, List.length_append, List.length_cons, List.length_nil] at this ⊢
    omega
theorem flat_one (xs : List PK) : ∀ u ∈ flat xs, u.oneCell' = true := by
  intro u hu
  simp only [flat, List.mem_flatMap] at hu
  obtain ⟨x, _, hu⟩ := hu
  simp only [List.mem_cons, List.not_mem_nil, or_false] at hu
  rcases hu with rfl | rfl | rfl <;> rfl
theorem flat_append (a b : List PK) : flat (a ++ b) = flat a ++ flat b := by simp [flat]
theorem flat_at : ∀ (xs : List PK) (j : Nat) (h : j < xs.length), (flat xs)[j * 3]? = some (.int .i64 xs[j].f) ∧ (flat xs)[j * 3 + 1]? = some (.int .i64 xs[j].t) ∧ (flat xs)[j * 3 + 2]? = some (.string xs[j].x)
  | [], _, h => by simp at h
  | x :: xs, 0, _ => by simp [flat]
  | x :: xs, j + 1, h => by
    have ih := flat_at xs j (by simpa using h)
    rw [show (j + 1) * 3 = j * 3 + 3 by omega]
    simpa [flat] using ih
/-- Packets at a place of a block. -/
def PsIs (w : World) (b o : Nat) (fs : List PK) : Prop :=
  ∀ j (h : j < fs.length), w.cell? ⟨b, o + j * 3, none⟩ = some (.int .i64 fs[j].f) ∧ w.cell? ⟨b, o + j * 3 + 1, none⟩ = some (.int .i64 fs[j].t) ∧ w.cell? ⟨b, o + j * 3 + 2, none⟩ = some (.string fs[j].x)
theorem flat_cells {w : World} {blk : Nat} : ∀ (xs : List PK) (off : Nat), PsIs w blk off xs → ∀ j u, (flat xs)[j]? = some u → w.cell? ⟨blk, off + j, none⟩ = some u
  | [], _, _, j, u, hu => by simp [flat] at hu
  | x :: xs, off, h, j, u, hu => by
    have ih := flat_cells (w := w) (blk := blk) xs (off + 3) (fun i hi => by
      have := h (i + 1) (by simp; omega)
      rw [show off + (i + 1) * 3 = off + 3 + i * 3 by omega] at this
      simpa using this)
    have h0 := h 0 (by simp)
    simp only [Nat.zero_mul, Nat.add_zero, List.getElem_cons_zero] at h0
    match j with
    | 0 => simp [flat] at hu; subst hu; exact h0.1
    | 1 => simp [flat] at hu; subst hu; exact h0.2.1
    | 2 => simp [flat] at hu; subst hu; exact h0.2.2
    | j + 3 =>
      have := ih j u (by simpa [flat] using hu)
      rw [show off + (j + 3) = off + 3 + j by omega]
      exact this
theorem flat_add {w : World} {blk off : Nat} {xs : List PK} (h : PsIs w blk off xs) : ∀ j u, (flat xs)[j]? = some u → w.cell? ((⟨blk, off, none⟩ : Addr).add j) = some u := fun j u hu => by
  have hadd : (⟨blk, off, none⟩ : Addr).add j = ⟨blk, off + j, none⟩ := by unfold Addr.add; split <;> simp_all
  rw [hadd]
  exact flat_cells xs off h j u hu
/-- No text of a packet is too long for any machine. -/
def SmallP (fs : List PK) : Prop := ∀ f ∈ fs, f.x.size ≤ 140737488355328
/-- A list of packets that lies in memory. -/
def PsL (w : World) (v : Value) (fs : List PK) : Prop :=
  ∃ p c, v = .slice p fs.length c ∧ fs.length ≤ c ∧ c ≤ 9223372036854775807 ∧ fs.length * 32 ≤ 140737488355328 ∧ SmallP fs ∧ (p = none → c = 0) ∧ (0 < fs.length → ∃ b o, p = some ⟨b, o, none⟩ ∧ b < w.heap.size ∧ PsIs w b o fs)
theorem PsIs.below {w W : World} {b o : Nat} {fs : List PK} (h : PsIs w b o fs) (hlt : b < w.heap.size) (hb : Below w.heap.size w W) : PsIs W b o fs := fun j hj => by
  rw [hb.cell (p := ⟨b, _, none⟩) hlt, hb.cell (p := ⟨b, _, none⟩) hlt, hb.cell (p := ⟨b, _, none⟩) hlt]; exact h j hj
theorem PsL.below {w W : World} {v : Value} {fs : List PK} (h : PsL w v fs) (hb : Below w.heap.size w W) : PsL W v fs := by
  obtain ⟨p, c, rfl, hlc, hc, hl, hs, hn, h⟩ := h
  refine ⟨p, c, rfl, hlc, hc, hl, hs, hn, fun h0 => ?_⟩
  obtain ⟨b, o, rfl, hlt, hc⟩ := h h0
  exact ⟨b, o, rfl, Nat.lt_of_lt_of_le hlt hb.size, hc.below hlt hb⟩
theorem PsL.small {w : World} {v : Value} {fs : List PK} (h : PsL w v fs) : SmallP fs := by obtain ⟨_, _, _, _, _, _, hs, _⟩ := h; exact hs
theorem PsL.many {w : World} {v : Value} {fs : List PK} (h : PsL w v fs) : fs.length * 32 ≤ 140737488355328 := by obtain ⟨_, _, _, _, _, hl, _, _⟩ := h; exact hl
theorem PsL.nil (w : World) : PsL w (.slice none 0 0) [] := ⟨none, 0, rfl, Nat.le_refl _, by omega, by simp, fun f hf => by simp at hf, fun _ => rfl, fun h => by simp at h⟩
theorem info30 : ∃ i0, Try.prog.info? 30 = some i0 ∧ i0.zero = some (.agg #[.int .i64 0, .int .i64 0, .string ⟨#[]⟩]) ∧ i0.size = 3 ∧ i0.bytes = 32 := by
  have h1 : (Try.prog.info? 30).bind (·.zero) = some (.agg #[.int .i64 0, .int .i64 0, .string ⟨#[]⟩]) := by kernel_rfl
  have h2 : (Try.prog.info? 30).map (·.size) = some 3 := by kernel_rfl
  have h3 : (Try.prog.info? 30).map (·.bytes) = some 32 := by kernel_rfl
  generalize Try.prog.info? 30 = i at *
  cases i with
  | none => cases h1
  | some i => exact ⟨i, rfl, h1, Option.some.inj h2, Option.some.inj h3⟩
/-- Packets in memory of their own. -/
def OwnP (base : Nat) (W : World) (u : Value) (fs : List PK) : Prop := W.ownsRow base 30 3 u fs.length (flat fs)
theorem OwnP.packs {base : Nat} {W : World} {u : Value} {xs : List PK} (h : OwnP base W u xs) (hm : xs.length * 32 ≤ 140737488355328) (hs : SmallP xs) : PsL W u xs := by
  obtain ⟨hl, ⟨rfl, hn⟩ | ⟨g, cap, cur, rfl, hb, hg, hnc, hcm, hcs, htake⟩⟩ := h
  · exact ⟨none, 0, by rw [hn], by omega, by omega, hm, hs, fun _ => rfl, fun h => by omega⟩
  · refine ⟨_, cap, rfl, hnc, by unfold maxLen at hcm; omega, hm, hs, (fun h => by cases h), fun _ => ⟨g, 0, rfl, (Array.getElem?_eq_some_iff.1 hg).1, ?_⟩⟩
    intro j hj
    have hc : ∀ k v, (flat xs)[k]? = some v → W.cell? ⟨g, 0 + k, none⟩ = some v := fun k v hk => by
      rw [← htake] at hk
      rw [Nat.zero_add]
      simp only [World.cell?, hg]
      have := List.getElem?_take (l := cur.toList) (i := xs.length * 3) (j := k)
      rw [hk] at this
      split at this
      · simpa using this.symm
      · cases this
    obtain ⟨a0, a1, a2⟩ := flat_at xs j hj
    exact ⟨hc _ _ a0, hc _ _ a1, hc _ _ a2⟩
theorem OwnP.below {base : Nat} {W W' : World} {u : Value} {fs : List PK} (h : OwnP base W u fs) (hb : Below W.heap.size W W') : OwnP base W' u fs := by
  obtain ⟨hl, ⟨rfl, hn⟩ | ⟨g, cap, cur, rfl, h1, hg, r⟩⟩ := h
  · exact ⟨hl, .inl ⟨rfl, hn⟩⟩
  · exact ⟨hl, .inr ⟨g, cap, cur, rfl, h1, by rw [hb.block _ (Array.getElem?_eq_some_iff.1 hg).1]; exact hg, r⟩⟩
def eqB (a b : ByteArray) : Bool := a.toList == b.toList
theorem eqB_iff {a b : ByteArray} : eqB a b = true ↔ a = b := by
  unfold eqB
  rw [beq_iff_eq]
  constructor
  · intro h
    have h' : a.data.toList = b.data.toList := by simpa [ByteArray.toList_eq] using h
    exact ByteArray.ext (Array.ext' h')
  · rintro rfl; rfl
/-- Packets that are one. -/
def eqP (a b : PK) : Bool := (a.f == b.f) && ((a.t == b.t) && eqB a.x b.x)
theorem eqP_iff {a b : PK} : eqP a b = true ↔ a = b := by
  obtain ⟨a1, a2, a3⟩ := a
  obtain ⟨b1, b2, b3⟩ := b
  simp only [eqP, Bool.and_eq_true, beq_iff_eq, eqB_iff, PK.mk.injEq]
theorem eqP_self (a : PK) : eqP a a = true := eqP_iff.2 rfl
/-- What is asked of a packet, and of all. -/
def nodeB (n : Int) : Bool := decide (0 ≤ n) && decide (n < 8)
def wrongP (p : PK) : Bool := !nodeB p.f || (!nodeB p.t || decide (65536 < p.x.size))
def okN (ps : List PK) : Bool := decide (ps.length ≤ 4096) && !ps.any wrongP
def chN (ps : List PK) : Int := if okN ps = true then 0 else 6
/-- The set of three cells of a row. -/
theorem set_row {W : World} {g k : Nat} {cur : Array Value} {t : TypeId} (hg : W.heap[g]? = some (.cells cur t (0, 0))) (hk : k < cur.size) (v : Value) :
    (∃ o, W.cell? ⟨g, k, none⟩ = some o) ∧ W.frozen? ⟨g, k, none⟩ = false ∧ (W.setCell ⟨g, k, none⟩ v).heap[g]? = some (.cells (cur.setIfInBounds k v) t (0, 0)) ∧ ∀ B w0, Below B w0 W → B ≤ g → Below B w0 (W.setCell ⟨g, k, none⟩ v) := by
  refine ⟨⟨cur[k], by simp [World.cell?, hg, hk]⟩, frozen_zero hg k, heap_setCell_same W g k cur t v hg, fun B w0 hb hB => ⟨hb.os, hb.tape, hb.output, by simp [World.setCell]; exact hb.size, fun j hj => ?_⟩⟩
  rw [heap_setCell_other _ ⟨g, k, none⟩ j _ (by show j ≠ g; omega)]
  exact hb.block j hj
theorem set_three {W : World} {g k : Nat} {cur : Array Value} {t : TypeId} (hg : W.heap[g]? = some (.cells cur t (0, 0))) (hk : k + 3 ≤ cur.size) (a b c : Value) :
    ∃ Wa Wb Wc, W.setCell ⟨g, k, none⟩ a = Wa ∧ Wa.setCell ⟨g, k + 1, none⟩ b = Wb ∧ Wb.setCell ⟨g, k + 2, none⟩ c = Wc ∧
      (∃ o, W.cell? ⟨g, k, none⟩ = some o) ∧ W.frozen? ⟨g, k, none⟩ = false ∧ (∃ o, Wa.cell? ⟨g, k + 1, none⟩ = some o) ∧ Wa.frozen? ⟨g, k + 1, none⟩ = false ∧
      (∃ o, Wb.cell? ⟨g, k + 2, none⟩ = some o) ∧ Wb.frozen? ⟨g, k + 2, none⟩ = false ∧ (∀ B w0, Below B w0 W → B ≤ g → Below B w0 Wc) ∧ W.heap.size ≤ Wc.heap.size ∧ (∀ j, j ≠ g → Wc.heap[j]? = W.heap[j]?) ∧
      ∃ cur' : Array Value, Wc.heap[g]? = some (.cells cur' t (0, 0)) ∧ cur'.size = cur.size ∧ (∀ j, j < k ∨ k + 3 ≤ j → cur'[j]? = cur[j]?) ∧ cur'[k]? = some a ∧ cur'[k + 1]? = some b ∧ cur'[k + 2]? = some c := by
  obtain ⟨a1, a2, a3, a4⟩ := set_row hg (k := k) (by omega) a
  obtain ⟨b1, b2, b3, b4⟩ := set_row a3 (k := k + 1) (by simp; omega) b
  obtain ⟨c1, c2, c3, c4⟩ := set_row b3 (k := k + 2) (by simp; omega) c
  refine ⟨_, _, _, rfl, rfl, rfl, a1, a2, b1, b2, c1, c2, fun B w0 hb hB => c4 _ _ (b4 _ _ (a4 _ _ hb hB) hB) hB, by simp [World.setCell], fun j hj => ?_, _, c3, by simp, fun j hj => ?_, ?_, ?_, ?_⟩
  · rw [heap_setCell_other _ _ j _ hj, heap_setCell_other _ _ j _ hj, heap_setCell_other _ _ j _ hj]
  · rw [Array.getElem?_setIfInBounds_ne (by omega), Array.getElem?_setIfInBounds_ne (by omega), Array.getElem?_setIfInBounds_ne (by omega)]
  · rw [Array.getElem?_setIfInBounds_ne (by omega), Array.getElem?_setIfInBounds_ne (by omega), Array.getElem?_setIfInBounds_self_of_lt (by omega)]
  · rw [Array.getElem?_setIfInBounds_ne (by omega), Array.getElem?_setIfInBounds_self_of_lt (by simp; omega)]
  · rw [Array.getElem?_setIfInBounds_self_of_lt (by simp; omega)]
end Go.Proofs.Ytnfgfbmkeiimlaa
