/- What slices.SortFunc makes of rows, by all fields. -/
import Derived.Test.YthfoijnjgdeaaaaDoorBagA
import Derived.Test.YthfoijnjgdeaaaaDoorShelfB
namespace Go.Proofs.YthfoijnjgdeaaaaDoor
open Go.RowKit Go.Lib Go.Sort
set_option linter.unusedVariables false

/-- A row that lies in a world. -/
def RowRef (w0 : World) : Type := { p : Value × List Val // RowV w0 p.1 p.2 }
def noRow (w0 : World) : RowRef w0 := ⟨(.slice none 0 0, []), ⟨by simp, .inl ⟨none, 0, rfl, rfl⟩⟩⟩
def RowRef.at {w0 : World} (r : RowRef w0) : Value := r.1.1
def RowRef.vals {w0 : World} (r : RowRef w0) : List Val := r.1.2
theorem RowRef.one {w0 : World} (r : RowRef w0) : r.at.oneCell' = true := by
  obtain ⟨⟨v, vs⟩, h⟩ := r
  obtain ⟨p, n, c, rfl⟩ := h.slice
  rfl
/-- All blocks but one are as they were. -/
structure Others (blk : Nat) (W w' : World) : Prop where
  os : w'.os = W.os
  tape : w'.tape = W.tape
  output : w'.output = W.output
  size : W.heap.size ≤ w'.heap.size
  block : ∀ k, k < W.heap.size → k ≠ blk → w'.heap[k]? = W.heap[k]?
theorem Others.below {blk B : Nat} {w0 W w' : World} (h : Others blk W w') (hb : Below B w0 W) (hB : B ≤ blk) (hs : B ≤ W.heap.size) : Below B w0 w' :=
  ⟨h.os.trans hb.os, h.tape.trans hb.tape, h.output.trans hb.output, Nat.le_trans hb.size h.size, fun k hk => (h.block k (by omega) (by omega)).trans (hb.block k hk)⟩

theorem sortWorld_others {α : Type} [Inhabited α] (enc : α → Value) (W : World) (blk off n : Nat) (d : Array α) (os : Array Obj) : Others blk W (sortWorld enc W blk off n d os) := by
  unfold sortWorld
  refine ⟨rfl, rfl, rfl, by simp [Go.Sort.size_grow], fun k hk hn => ?_⟩
  rw [Go.Sort.heap_grow_old _ _ (by simpa using hk)]
  simp [putRow, mapBlock, Array.getElem?_modify, Ne.symm hn]

theorem swo_of {α : Type} {cf : α → α → Int} {β : Type} (m : β → α) (h : TC cf) : SWO (ltOf fun x y : β => cf (m x) (m y)) where
  irrefl x := by simp [ltOf, h.self]
  trans x y z h1 h2 := by
    simp only [ltOf, decide_eq_true_eq] at *
    exact h.trans _ _ _ h1 h2
  ntrans x y z h1 h2 := by
    simp only [ltOf, decide_eq_false_iff_not] at *
    intro h3
    have a1 := h.anti (m x) (m y)
    have a2 := h.anti (m y) (m z)
    have a3 := h.anti (m x) (m z)
    by_cases e1 : cf (m x) (m y) = 0
    · rw [(h.zero _ _).1 e1] at h3; exact h2 h3
    by_cases e2 : cf (m y) (m z) = 0
    · rw [← (h.zero _ _).1 e2] at h3; exact h1 h3
    have := h.trans (m z) (m y) (m x) (by omega) (by omega)
    omega

theorem perm_of_permIn {α : Type} [Inhabited α] {d d' : Array α} (h : PermIn 0 d.size d d') : d'.toList.Perm d.toList := by
  obtain ⟨hs, _, hp⟩ := h
  have e1 : d'.extract 0 d.size = d' := by rw [← hs]; exact Array.extract_size
  have e2 : d.extract 0 d.size = d := Array.extract_size
  rwa [e1, e2] at hp
theorem pairwise_of_sortedIn {α : Type} [Inhabited α] {cf : α → α → Int} {n : Nat} {d : Array α} (hn : d.size = n) (h : SortedIn (ltOf cf) 0 n d) : d.toList.Pairwise (fun a b => ¬ cf b a < 0) := by
  rw [List.pairwise_iff_getElem]
  intro i j hi hj hij
  have h1 := h i j (Nat.zero_le _) hij (by rw [← hn]; simpa using hj)
  simp only [ltOf, decide_eq_false_iff_not] at h1
  rw [getElem!_pos d i (by simpa using hi), getElem!_pos d j (by simpa using hj)] at h1
  simpa using h1

/-- Rows in order, by all fields. -/
def InOrder {w0 : World} (rs : List (RowRef w0)) : Prop := rs.Pairwise (fun a b => ¬ cmpWR b.vals a.vals < 0)
set_option maxHeartbeats 1000000 in
theorem sort_rows (w0 W : World) (blk cap : Nat) (rs : List (RowRef w0)) (hW : Below w0.heap.size w0 W) (hb0 : w0.heap.size ≤ blk) (hb1 : blk < W.heap.size)
    (hc : ∀ (j : Nat) (h : j < rs.length), W.cell? ⟨blk, j, none⟩ = some rs[j].at ∧ W.frozen? ⟨blk, j, none⟩ = false) (hl : rs.length < 4611686018427387904) :
    Calls Tryd.prog 41 #[.slice (some ⟨blk, 0, none⟩) rs.length cap, .func (.func 42) #[] #[]] W fun e w' => e = .returned (.tuple #[]) ∧
      ∃ rs' : List (RowRef w0), rs'.Perm rs ∧ InOrder rs' ∧ (∀ (j : Nat) (h : j < rs'.length), w'.cell? ⟨blk, j, none⟩ = some rs'[j].at) ∧ Others blk W w' := by
  letI : Inhabited (RowRef w0) := ⟨noRow w0⟩
  have eg : ∀ args w, (callFunc 42 args).run Tryd.prog w = .ok (.enter 42 args) w := enters_of Tryd.func42 (by kernel_rfl) rfl
  have hH : Holds RowRef.at W blk 0 rs.toArray := by
    intro j hj
    have hj' : j < rs.length := by simpa using hj
    rw [Nat.zero_add, getElem!_pos rs.toArray j hj]
    simpa using hc j hj'
  have hcmp : CmpLays1 Tryd.prog 42 #[] RowRef.at (fun x y : RowRef w0 => cmpWR x.vals y.vals) blk 0 rs.toArray.size W := by
    intro m os dk hs x y
    have hbw := (sortWorld_others RowRef.at W blk 0 m dk os).below hW hb0 hW.size
    exact wholeRows_any x.at y.at x.vals y.vals _ (x.2.below hbw) (y.2.below hbw)
  have hcon := Any.slices_SortFunc Tryd.sortL RowRef.at (fun r => r.one) (fun x y : RowRef w0 => cmpWR x.vals y.vals) (swo_of RowRef.vals tc_rows) 42 #[] blk 0 cap rs.toArray W eg hcmp hH hb1 (by simpa using hl)
  change Calls Tryd.prog 41 _ _ _ at hcon
  rw [List.size_toArray] at hcon
  refine hcon.mono ?_
  rintro e w' ⟨rfl, d', n, os, hp, hs, rfl⟩
  have hsz : d'.size = rs.toArray.size := hp.1
  refine ⟨rfl, d'.toList, ?_, ?_, ?_, sortWorld_others _ _ _ _ _ _ _⟩
  · have := perm_of_permIn (d := rs.toArray) (by simpa using hp)
    simpa using this
  · exact pairwise_of_sortedIn (by simpa using hsz) hs
  · intro j hj
    have hj' : j < d'.size := by simpa using hj
    have := (holds_sortWorld RowRef.at W blk 0 n rs.toArray d' os hb1 hH hsz j hj').1
    rw [Nat.zero_add, getElem!_pos d' j hj'] at this
    simpa using this
end Go.Proofs.YthfoijnjgdeaaaaDoor
