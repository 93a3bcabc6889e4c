/- Lists that are copied: cells of a list, in order; a row of one's own is a list. -/
import Derived.Test.YtgdjhkcllpkiiaaGreatDoorSaSbScSdSe
import Derived.Maps.AppendAt
import Derived.Laws.OwnMore
import Derived.Lib.AppendZeros
import Derived.Deep.RegionHeld3
namespace Go.Proofs.YtgdjhkcllpkiiaaGreatDoor
open Go.Shelf Go.RowKit Go.Lib
set_option linter.unusedVariables false
set_option linter.unusedSimpArgs false
theorem run_append_none_c {P : Program} {w : World} (base : Nat) (t ty e : TypeId) (i : TypeInfo) (size : Nat) (ht : P.underlying t = some (.slice e)) (hi : P.info? e = some i)
    (v : Value) (n c : Nat) (xs : List Value) (hown : w.ownsRow base e size v n xs) :
    (Builtin.append_ #[t, t] ty #[v, .slice none 0 c]).run P w = .ok v w := by
  rcases hown.2 with ⟨rfl, rfl⟩ | ⟨g, cap, cur, rfl, _, _, hnc, _⟩
  · simp [Builtin.append_, run_underlying ht, Go.sizeOf, typeInfo, hi, Builtin.lenOf, Builtin.firstCells]
  · simp [Builtin.append_, run_underlying ht, Go.sizeOf, typeInfo, hi, Builtin.lenOf, Builtin.firstCells, hnc, storeCells]
/-- A part that leads nowhere. -/
def Flat {α : Type} (rel : Rel α) : Prop := (∀ K K' W W' cs x, rel K W cs x → rel K' W' cs x) ∧ ∀ K W cs x, rel K W cs x → ∀ u ∈ cs, u.oneCell' = true
theorem fInt : Flat rInt := ⟨fun _ _ _ _ _ _ h => h, fun _ _ cs x h u hu => by rw [h.1] at hu; simp at hu; subst hu; rfl⟩
theorem fTxt : Flat rTxt := ⟨fun _ _ _ _ _ _ h => h, fun _ _ cs x h u hu => by rw [h.1] at hu; simp at hu; subst hu; rfl⟩
theorem fKnd : Flat rKnd := ⟨fun _ _ _ _ _ _ h => h, fun _ _ cs x h u hu => by rw [h.1] at hu; simp at hu; subst hu; rfl⟩
theorem fVal : Flat rVal := ⟨fun _ _ _ _ _ _ h => h, fun _ _ cs x h u hu => by rw [h.1] at hu; simp at hu; rcases hu with rfl | rfl | rfl | rfl <;> rfl⟩
theorem fStp : Flat rStp := ⟨fun _ _ _ _ _ _ h => h, fun _ _ cs x h u hu => by rw [h.1] at hu; simp at hu; rcases hu with rfl | rfl | rfl <;> rfl⟩
theorem fCl : Flat rCl := ⟨fun _ _ _ _ _ _ h => h, fun _ _ cs x h u hu => by rw [h.1] at hu; simp at hu; rcases hu with rfl | rfl <;> rfl⟩
theorem part_of {cells cs : List Value} {j n size : Nat} (hc : cells.length = n * size) (hcs : cs.length = size) (hj : j < n) : ((cells ++ cs).drop (j * size)).take size = (cells.drop (j * size)).take size := by
  have h1 : j * size + size ≤ n * size := by
    have := Nat.mul_le_mul_right size (show j + 1 ≤ n by omega)
    rwa [Nat.add_mul, Nat.one_mul] at this
  rw [List.drop_append_of_le_length (by omega), List.take_append_of_le_length (by rw [List.length_drop]; omega)]
/-- The cells of a list's beginning, in order. -/
theorem cells_upto {α : Type} {rel : Rel α} {size : Nat} {K : Nat → Prop} {W : World} {xs : List α} {b o : Nat}
    (h : ∀ j (h : j < xs.length), ∃ cs, cs.length = size ∧ (∀ i u, cs[i]? = some u → W.cell? ⟨b, o + j * size + i, none⟩ = some u) ∧ rel K W cs xs[j]) :
    ∀ n, n ≤ xs.length → ∃ cells : List Value, cells.length = n * size ∧ (∀ j u, cells[j]? = some u → W.cell? ⟨b, o + j, none⟩ = some u) ∧ ∀ j (hj : j < n) (h2 : j < xs.length), rel K W ((cells.drop (j * size)).take size) xs[j]
  | 0, _ => ⟨[], by simp, fun j u hu => by simp at hu, fun j hj => by omega⟩
  | n + 1, hn => by
    obtain ⟨cells, h1, h2, h3⟩ := cells_upto h n (by omega)
    obtain ⟨cs, c1, c2, c3⟩ := h n (by omega)
    refine ⟨cells ++ cs, by rw [List.length_append, h1, c1, Nat.add_mul, Nat.one_mul], fun j u hu => ?_, fun j hj h2' => ?_⟩
    · by_cases hj : j < cells.length
      · rw [List.getElem?_append_left hj] at hu
        exact h2 j u hu
      · rw [List.getElem?_append_right (by omega), h1] at hu
        have := c2 _ u hu
        rw [show o + n * size + (j - n * size) = o + j by omega] at this
        exact this
    · by_cases hjn : j < n
      · rw [part_of h1 c1 hjn]
        exact h3 j hjn h2'
      · have e : j = n := by omega
        subst e
        rw [List.drop_append_of_le_length (by omega), List.drop_of_length_le (by omega), List.nil_append, List.take_of_length_le (by omega)]
        exact c3
/-- All blocks from B on. -/
def From (B : Nat) (W : World) : Nat → Prop := fun b => B ≤ b ∧ b < W.heap.size
theorem From.lt {B : Nat} {W : World} : ∀ b, From B W b → b < W.heap.size := fun b h => h.2
/-- A row of one's own, as a list. -/
theorem own_list {α : Type} {rel : Rel α} (hf : Flat rel) {base te size bytes : Nat} {W' : World} {v' : Value} {xs : List α} {cells : List Value} {K : Nat → Prop} {W : World} (hown : W'.ownsRow base te size v' xs.length cells) (hb : xs.length * bytes ≤ 140737488355328)
    (hr : ∀ j (h : j < xs.length), rel K W ((cells.drop (j * size)).take size) xs[j]) : ListIs rel size bytes (From base W') W' v' xs := by
  obtain ⟨hl, ⟨rfl, hn⟩ | ⟨g, cap, cur, rfl, hbg, hg, hnc, hcm, hcs, htake⟩⟩ := hown
  · exact ⟨none, 0, by rw [hn], hb, fun h => by omega⟩
  · refine ⟨_, cap, rfl, hb, fun _ => ⟨g, 0, rfl, ⟨hbg, (Array.getElem?_eq_some_iff.1 hg).1⟩, fun j hj => ⟨_, ?_, fun i u hu => ?_, hf.1 _ _ _ _ _ _ (hr j hj)⟩⟩⟩
    · have h1 : j * size + size ≤ xs.length * size := by
        have := Nat.mul_le_mul_right size (show j + 1 ≤ xs.length by omega)
        rwa [Nat.add_mul, Nat.one_mul] at this
      rw [List.length_take, List.length_drop, hl]; omega
    · have hi : i < size := by
        have := (List.getElem?_eq_some_iff.1 hu).1
        rw [List.length_take] at this; omega
      rw [List.getElem?_take_of_lt hi, List.getElem?_drop, ← htake] at hu
      have hlt : j * size + i < xs.length * size := by
        have := Nat.mul_le_mul_right size (show j + 1 ≤ xs.length by omega)
        rw [Nat.add_mul, Nat.one_mul] at this; omega
      rw [List.getElem?_take_of_lt hlt] at hu
      rw [Nat.zero_add]
      exact cell_of_row hg (by simpa using hu)
/-- A list that is put behind an empty one, into new memory. -/
structure Cpy {α : Type} (rel : Rel α) (size bytes : Nat) (ts : TypeId) (X W' : World) (g : Nat) (vx : Value) (xs : List α) (p : Option Addr) (c : Nat) : Prop where
  run : (Builtin.append_ #[ts, ts] ts #[.slice (some ⟨g, 0, none⟩) 0 0, vx]).run Tryz.prog X = .ok (.slice p xs.length c) W'
  list : ListIs rel size bytes (From g W') W' (.slice p xs.length c) xs
  old : ∀ j, j < X.heap.size → j ≠ g → W'.heap[j]? = X.heap[j]?
  size_ : X.heap.size ≤ W'.heap.size
  below : ∀ B w0, Below B w0 X → B ≤ g → Below B w0 W'
theorem cpy_list {α : Type} {rel : Rel α} (hf : Flat rel) {size bytes : Nat} {ts te : TypeId} {i0 : TypeInfo} {z : Value} (hu : Tryz.prog.underlying ts = some (.slice te)) (hi : Tryz.prog.info? te = some i0) (hz : i0.zero = some z) (hs : i0.size = size) (hby : i0.bytes = bytes) (hzs : z.cells.size = size) (hs0 : 0 < size) (hb0 : 0 < bytes)
    {X : World} {g : Nat} (hg : X.heap[g]? = some (.cells #[] te (0, 0))) {K : Nat → Prop} {vx : Value} {xs : List α} (h : ListIs rel size bytes K X vx xs) : ∃ W' p c, Cpy rel size bytes ts X W' g vx xs p c := by
  have hgl : g < X.heap.size := (Array.getElem?_eq_some_iff.1 hg).1
  have hown : X.ownsRow g te size (.slice (some ⟨g, 0, none⟩) 0 0) 0 [] := ⟨by simp, .inr ⟨g, 0, #[], rfl, Nat.le_refl _, hg, Nat.le_refl _, Nat.zero_le _, by simp, by simp⟩⟩
  obtain ⟨q, c, rfl, hb, hp⟩ := h
  have hmax : xs.length ≤ maxLen := by
    have : xs.length * 1 ≤ xs.length * bytes := Nat.mul_le_mul_left _ hb0
    unfold maxLen; omega
  by_cases h0 : 0 < xs.length
  · obtain ⟨b, o, rfl, hKb, hc⟩ := hp h0
    obtain ⟨cells, h1, h2, h3⟩ := cells_upto hc xs.length (Nat.le_refl _)
    have hone : ∀ u ∈ cells, u.oneCell' = true := fun u hu' => by
      obtain ⟨k, hk, rfl⟩ := List.getElem_of_mem hu'
      have hkk : k / size < xs.length := by rw [Nat.div_lt_iff_lt_mul hs0]; omega
      refine hf.2 _ _ _ _ (h3 (k / size) hkk hkk) _ ?_
      rw [List.mem_iff_getElem?]
      refine ⟨k % size, ?_⟩
      rw [List.getElem?_take_of_lt (Nat.mod_lt _ hs0), List.getElem?_drop, show k / size * size + k % size = k by rw [Nat.mul_comm]; exact Nat.div_add_mod k size]
      exact List.getElem?_eq_getElem hk
    have hadd : ∀ j u, cells[j]? = some u → X.cell? ((⟨b, o, none⟩ : Addr).add j) = some u := fun j u hu' => by
      have : (⟨b, o, none⟩ : Addr).add j = ⟨b, o + j, none⟩ := by unfold Addr.add; split <;> simp_all
      rw [this]; exact h2 j u hu'
    obtain ⟨v', W', e, ho, h5, _, h6⟩ := run_append_own_at (P := Tryz.prog) X g ts ts te i0 z size bytes hu hi hz hs hby hzs hs0 _ 0 [] hown ⟨b, o, none⟩ xs.length c cells (by rw [h1]) hadd hone (by omega) (by rw [Nat.zero_add]; exact hb) (by omega)
    rw [Nat.zero_add, List.nil_append] at ho
    have hlist : ListIs rel size bytes (From g W') W' v' xs := own_list hf ho hb (fun j hj => h3 j hj hj)
    obtain ⟨p', c', rfl, _⟩ := id hlist
    refine ⟨W', p', c', e, hlist, fun j hj hne => h5.block j hj (fun e => ?_), h5.size, fun B w0 hbb hB => Below.grown hbb h5 (by omega) (fun j hj => by have := (hown.lt _ hj).1; omega)⟩
    simp only [Value.ownBlock, Option.map_some, Option.some.injEq] at e
    exact hne e
  · have hx : xs = [] := List.eq_nil_of_length_eq_zero (by omega)
    subst hx
    cases q with
    | none => exact ⟨X, some ⟨g, 0, none⟩, 0, run_append_none_c (P := Tryz.prog) (w := X) g ts ts te i0 size hu hi _ _ _ _ hown, ⟨_, 0, rfl, by simp, fun h => by simp at h⟩, fun _ _ _ => rfl, Nat.le_refl _, fun _ _ h _ => h⟩
    | some ad =>
      obtain ⟨v', W', e, ho, h5, _, h6⟩ := run_append_own_at (P := Tryz.prog) X g ts ts te i0 z size bytes hu hi hz hs hby hzs hs0 _ 0 [] hown ad 0 c [] (by simp) (fun j u hu => by simp at hu) (fun u hu => by simp at hu) (by unfold maxLen; omega) (by omega) (by omega)
      have hlist : ListIs rel size bytes (From g W') W' v' ([] : List α) := own_list hf (K := K) (W := X) ho (by simp) (fun j hj => by simp at hj)
      obtain ⟨p', c', rfl, _⟩ := id hlist
      refine ⟨W', p', c', e, hlist, fun j hj hne => h5.block j hj (fun e => ?_), h5.size, fun B w0 hbb hB => Below.grown hbb h5 (by omega) (fun j hj => by have := (hown.lt _ hj).1; omega)⟩
      simp only [Value.ownBlock, Option.map_some, Option.some.injEq] at e
      exact hne e
end Go.Proofs.YtgdjhkcllpkiiaaGreatDoor
/- Lists of parts that are made one by one, in new memory. -/
namespace Go.Proofs.YtgdjhkcllpkiiaaGreatDoor
open Go.Shelf Go.RowKit Go.Lib
set_option linter.unusedVariables false
set_option linter.unusedSimpArgs false
attribute [local go_sem ↓] Go.wp_at_zero Go.wp_at_succ
/-- A list that is being made: a row of one's own whose parts lie elsewhere, in new memory too. -/
def OwnR {α : Type} (rel : Rel α) (size : Nat) (te : TypeId) (base : Nat) (W : World) (u : Value) (xs : List α) : Prop :=
  ∃ (K : Nat → Prop) (cells : List Value), (∀ b, K b → base ≤ b ∧ b < W.heap.size ∧ u.ownBlock ≠ some b) ∧ W.ownsRow base te size u xs.length cells ∧ ∀ j (h : j < xs.length), rel K W ((cells.drop (j * size)).take size) xs[j]
theorem OwnR.nil {α : Type} {rel : Rel α} {size : Nat} {te : TypeId} {base : Nat} {W : World} : OwnR rel size te base W (.slice none 0 0) ([] : List α) :=
  ⟨fun _ => False, [], fun b h => h.elim, World.ownsRow_nil _ _ _ _, fun j h => by simp at h⟩
theorem OwnR.keep {α : Type} {rel : Rel α} (hm : Mono rel) {size : Nat} {te : TypeId} {base : Nat} {W W' : World} {u : Value} {xs : List α} (h : OwnR rel size te base W u xs) (hb : Below W.heap.size W W') : OwnR rel size te base W' u xs := by
  obtain ⟨K, cells, hK, ho, hr⟩ := h
  refine ⟨K, cells, fun b h => ⟨(hK b h).1, Nat.lt_of_lt_of_le (hK b h).2.1 hb.size, (hK b h).2.2⟩, ?_, fun j hj => hm _ _ _ _ _ _ (fun _ h => h) (kept_of (fun b h => (hK b h).2.1) hb) (hr j hj)⟩
  obtain ⟨hl, ⟨rfl, hn⟩ | ⟨g, cap, cur, rfl, h1, hg, r⟩⟩ := ho
  · exact ⟨hl, .inl ⟨rfl, hn⟩⟩
  · exact ⟨hl, .inr ⟨g, cap, cur, rfl, h1, by rw [hb.block _ (Array.getElem?_eq_some_iff.1 hg).1]; exact hg, r⟩⟩
theorem OwnR.list {α : Type} {rel : Rel α} (hm : Mono rel) {size bytes : Nat} {te : TypeId} {base : Nat} {W : World} {u : Value} {xs : List α} (h : OwnR rel size te base W u xs) (hb : xs.length * bytes ≤ 140737488355328) : ∃ p c, u = .slice p xs.length c ∧ ListIs rel size bytes (From base W) W (.slice p xs.length c) xs := by
  obtain ⟨K, cells, hK, ho, hr⟩ := h
  have hr2 : ∀ j (h : j < xs.length), rel (From base W) W ((cells.drop (j * size)).take size) xs[j] := fun j hj => hm _ _ _ _ _ _ (fun b h => ⟨(hK b h).1, (hK b h).2.1⟩) ⟨rfl, rfl, rfl, Nat.le_refl _, fun _ _ => rfl⟩ (hr j hj)
  obtain ⟨hl, ⟨rfl, hn⟩ | ⟨g, cap, cur, rfl, hbg, hg, hnc, hcm, hcs, htake⟩⟩ := ho
  · exact ⟨none, 0, by rw [hn], none, 0, by rw [hn], hb, fun h => by omega⟩
  · refine ⟨_, cap, rfl, _, cap, rfl, hb, fun _ => ⟨g, 0, rfl, ⟨hbg, (Array.getElem?_eq_some_iff.1 hg).1⟩, fun j hj => ⟨_, ?_, fun i u hu => ?_, hr2 j hj⟩⟩⟩
    · have h1 : j * size + size ≤ xs.length * size := by
        have := Nat.mul_le_mul_right size (show j + 1 ≤ xs.length by omega)
        rwa [Nat.add_mul, Nat.one_mul] at this
      rw [List.length_take, List.length_drop, hl]; omega
    · have hi : i < size := by
        have := (List.getElem?_eq_some_iff.1 hu).1
        rw [List.length_take] at this; omega
      rw [List.getElem?_take_of_lt hi, List.getElem?_drop, ← htake] at hu
      have hlt : j * size + i < xs.length * size := by
        have := Nat.mul_le_mul_right size (show j + 1 ≤ xs.length by omega)
        rw [Nat.add_mul, Nat.one_mul] at this; omega
      rw [List.getElem?_take_of_lt hlt] at hu
      rw [Nat.zero_add]
      exact cell_of_row hg (by simpa using hu)
theorem addr_add (b o k : Nat) : (⟨b, o, none⟩ : Addr).add k = ⟨b, o + k, none⟩ := by unfold Addr.add; split <;> simp_all
/-- One part more. -/
theorem OwnR.push {α : Type} {rel : Rel α} (hm : Mono rel) {size bytes : Nat} {ts te : TypeId} {i0 : TypeInfo} {z : Value} (hu : Tryz.prog.underlying ts = some (.slice te)) (hi : Tryz.prog.info? te = some i0) (hz : i0.zero = some z) (hs : i0.size = size) (hby : i0.bytes = bytes) (hzs : z.cells.size = size) (hs0 : 0 < size)
    {base : Nat} {X : World} {u : Value} {xs : List α} (h : OwnR rel size te base X u xs) (hbase : base ≤ X.heap.size) {cs : List Value} {x : α} {K2 : Nat → Prop} (hcs : cs.length = size) (hone : ∀ c ∈ cs, c.oneCell' = true) (hK2 : ∀ b, K2 b → base ≤ b ∧ b < X.heap.size ∧ u.ownBlock ≠ some b) (hr : rel K2 X cs x) (hbytes : (xs.length + 1) * bytes ≤ 140737488355328) (hmax : xs.length + 1 ≤ maxLen) :
    ∃ v' X2, (Builtin.append_ #[ts, ts] ts #[u, .slice (some ⟨X.heap.size, 0, none⟩) 1 1]).run Tryz.prog (X.alloc (.cells cs.toArray te)) = .ok v' X2 ∧ OwnR rel size te base X2 v' (xs ++ [x]) ∧ (∀ B w0, Below B w0 X → B ≤ base → Below B w0 X2) ∧ X.heap.size < X2.heap.size ∧ ∀ b, b < X.heap.size → u.ownBlock ≠ some b → X2.heap[b]? = X.heap[b]? := by
  obtain ⟨K, cells, hK, ho, hrr⟩ := h
  obtain ⟨X1, hX1⟩ : ∃ X1, X.alloc (.cells cs.toArray te) = X1 := ⟨_, rfl⟩
  have hb1 : Below X.heap.size X X1 := by rw [← hX1]; exact (Below.refl _ _).alloc (Nat.le_refl _) _
  have hs1 : X1.heap.size = X.heap.size + 1 := by rw [← hX1]; simp
  have hg1 : X1.heap[X.heap.size]? = some (.cells cs.toArray te (0, 0)) := by rw [← hX1]; exact heap_alloc_new X _
  rw [hX1]
  have ho1 : X1.ownsRow base te size u xs.length cells := by
    obtain ⟨hl, ⟨rfl, hn⟩ | ⟨g, cap, cur, rfl, h1, hg, r⟩⟩ := ho
    · exact ⟨hl, .inl ⟨rfl, hn⟩⟩
    · exact ⟨hl, .inr ⟨g, cap, cur, rfl, h1, by rw [hb1.block _ (Array.getElem?_eq_some_iff.1 hg).1]; exact hg, r⟩⟩
  have hnew : ∀ j v, cs[j]? = some v → X1.cell? ((⟨X.heap.size, 0, none⟩ : Addr).add j) = some v := fun j v hv => by
    rw [addr_add, Nat.zero_add]
    exact cell_of_row hg1 (by simpa using hv)
  obtain ⟨v', X2, e, ho2, h5, _, h6⟩ := run_append_own_at (P := Tryz.prog) X1 base ts ts te i0 z size bytes hu hi hz hs hby hzs hs0 u xs.length cells ho1 ⟨X.heap.size, 0, none⟩ 1 1 cs (by rw [hcs, Nat.one_mul]) hnew hone hmax hbytes (by omega)
  have hsz := h5.size
  have hKeep : ∀ (Q : Nat → Prop), (∀ b, Q b → b < X.heap.size ∧ u.ownBlock ≠ some b) → Kept Q X X2 := fun Q hQ => by
    refine ⟨h5.os.trans hb1.os, h5.tape.trans hb1.tape, h5.output.trans hb1.output, by omega, fun b hb => ?_⟩
    rw [h5.block b (by have := (hQ b hb).1; omega) (fun e => (hQ b hb).2 e.symm)]
    exact hb1.block b (hQ b hb).1
  refine ⟨v', X2, e, ⟨fun b => K b ∨ K2 b, cells ++ cs, fun b hb => ?_, by rw [List.length_append]; exact ho2, fun j hj => ?_⟩, fun B w0 hb hB => ?_, by omega, fun b h1 h2 => (h5.block b (by omega) (fun e => h2 e.symm)).trans (hb1.block b h1)⟩
  · have h3 : base ≤ b ∧ b < X.heap.size ∧ u.ownBlock ≠ some b := hb.elim (hK b) (hK2 b)
    refine ⟨h3.1, by omega, fun e => ?_⟩
    rcases h6 with h6 | h6
    · rw [h6] at e; exact h3.2.2 e
    · rw [h6] at e; simp only [Option.some.injEq] at e; omega
  · by_cases hjn : j < xs.length
    · rw [part_of ho.1 hcs hjn, List.getElem_append_left hjn]
      exact hm _ _ _ _ _ _ (fun _ h => .inl h) (hKeep K (fun b h => ⟨(hK b h).2.1, (hK b h).2.2⟩)) (hrr j hjn)
    · have e2 : j = xs.length := by simp at hj; omega
      subst e2
      have hl := ho.1
      rw [List.drop_append_of_le_length (by omega), List.drop_of_length_le (by omega), List.nil_append, List.take_of_length_le (by omega), List.getElem_append_right (Nat.le_refl _)]
      simp only [Nat.sub_self, List.getElem_cons_zero]
      exact hm _ _ _ _ _ _ (fun _ h => .inr h) (hKeep K2 (fun b h => ⟨(hK2 b h).2.1, (hK2 b h).2.2⟩)) hr
  · exact Below.grown (hb.trans (hb1.mono (Nat.le_trans hB hbase))) h5 (by omega) (fun j hj => by have := (ho1.lt _ hj).1; omega)
end Go.Proofs.YtgdjhkcllpkiiaaGreatDoor
/- Rows, tables, claims that are copied. -/
namespace Go.Proofs.YtgdjhkcllpkiiaaGreatDoor
open Go.Shelf Go.RowKit Go.Lib
set_option linter.unusedVariables false
set_option linter.unusedSimpArgs false
attribute [local go_sem ↓] Go.wp_at_zero Go.wp_at_succ
theorem inf64 : ∃ i0, Tryz.prog.info? 64 = some i0 ∧ i0.zero = some (.agg #[.int .u8 0, .bool false, .int .i64 0, .string ⟨#[]⟩]) ∧ i0.size = 4 ∧ i0.bytes = 32 := by
  have h1 : (Tryz.prog.info? 64).bind (·.zero) = some (.agg #[.int .u8 0, .bool false, .int .i64 0, .string ⟨#[]⟩]) := by kernel_rfl
  have h2 : (Tryz.prog.info? 64).map (·.size) = some 4 := by kernel_rfl
  have h3 : (Tryz.prog.info? 64).map (·.bytes) = some 32 := by kernel_rfl
  generalize Tryz.prog.info? 64 = i at *
  cases i with
  | none => cases h1
  | some i => exact ⟨i, rfl, h1, Option.some.inj h2, Option.some.inj h3⟩
theorem inf61 : ∃ i0, Tryz.prog.info? 61 = some i0 ∧ i0.zero = some (.slice none 0 0) ∧ i0.size = 1 ∧ i0.bytes = 24 := by
  have h1 : (Tryz.prog.info? 61).bind (·.zero) = some (.slice none 0 0) := by kernel_rfl
  have h2 : (Tryz.prog.info? 61).map (·.size) = some 1 := by kernel_rfl
  have h3 : (Tryz.prog.info? 61).map (·.bytes) = some 24 := by kernel_rfl
  generalize Tryz.prog.info? 61 = i at *
  cases i with
  | none => cases h1
  | some i => exact ⟨i, rfl, h1, Option.some.inj h2, Option.some.inj h3⟩
/-- What a copy answers. -/
def CpP {α : Type} (rel : Rel α) (size bytes : Nat) (xs : List α) (w : World) (e : Ending) (w' : World) : Prop :=
  ∃ p c, e = .returned (.slice p xs.length c) ∧ ListIs rel size bytes (From w.heap.size w') w' (.slice p xs.length c) xs ∧ Below w.heap.size w w'
set_option maxRecDepth 100000 in
set_option maxHeartbeats 4000000 in
theorem copyRows_any (v : Value) (xs : List (List Val)) (K : Nat → Prop) (w : World) (h : ListIs rRow 1 24 K w v xs) (hK : ∀ b, K b → b < w.heap.size) :
    Calls Tryz.prog 19 #[v] w fun e w' => CpP rRow 1 24 xs w e w' := by
  obtain ⟨p, c, rfl, hby, hp⟩ := h
  have HP : Hid _ := hp
  have HKK : Hid (∀ b, K b → b < w.heap.size) := hK
  have HBY : Hid (xs.length * 24 ≤ 140737488355328) := hby
  have HJ : Hid (OwnR rRow 1 61 w.heap.size w (.slice none 0 0) (xs.take 0)) := OwnR.nil
  obtain ⟨j0, hj0, hj1, hj2, hj3⟩ := inf61
  obtain ⟨k0, hk0, hk1, hk2, hk3⟩ := inf64
  have hx63 : xs.length ≤ 140737488355328 := by omega
  clear hp hK hby
  go_enter Tryz.func19, Tryz.ntmps19
  go_wp2_with fail
  go_loopg [3, 8] xs.length (fun gf s3 s8 wx => ∃ (u : Value) (i : Nat), u = s3 ∧ s8 = .int .i64 i ∧ i ≤ xs.length ∧ xs.length ≤ i + gf ∧ Hid (OwnR rRow 1 61 w.heap.size wx u (xs.take i)) ∧ Hid (Below w.heap.size w wx))
  case atStart => exact ⟨_, 0, rfl, rfl, by omega, by omega, HJ, Below.refl _ _⟩
  case round =>
    clear HJ
    obtain ⟨u, i, rfl, rfl, hi1, hgf, HJ, HB⟩ := hrel
    by_cases hi : i < xs.length
    · obtain ⟨g', rfl⟩ : ∃ g', gk = g' + 1 := ⟨gk - 1, by omega⟩
      obtain ⟨b, o, rfl, hKb, hc⟩ := HP.out (by omega)
      obtain ⟨cs, hcl, hcell, hrel1⟩ := hc i hi
      have htk : xs.take (i + 1) = xs.take i ++ [xs[i]] := List.take_succ_eq_append_getElem hi
      obtain ⟨x, hx⟩ : ∃ x, xs[i] = x := ⟨_, rfl⟩
      rw [hx] at hrel1 htk
      obtain ⟨vr, rfl, hl⟩ := hrel1
      have hbw := HB.out
      have c0 : wr.cell? ⟨b, o + i, none⟩ = some vr := by
        rw [hbw.cell (p := ⟨b, _, none⟩) (HKK.out _ hKb)]
        have := hcell 0 vr rfl
        simpa using this
      have hlw : ListIs rVal 4 32 K wr vr x := ListIs.later mVal hl HKK.out hbw
      obtain ⟨Y, hY⟩ : ∃ Y, wr.alloc (.cells #[] 64) = Y := ⟨_, rfl⟩
      have hbY : Below wr.heap.size wr Y := by rw [← hY]; exact (Below.refl _ _).alloc (Nat.le_refl _) _
      have hgY : Y.heap[wr.heap.size]? = some (.cells #[] 64 (0, 0)) := by rw [← hY]; exact heap_alloc_new wr _
      obtain ⟨X, p1, c1, hC⟩ := cpy_list fVal Tryz.underlying61 hk0 hk1 hk2 hk3 rfl (by omega) (by omega) hgY (ListIs.later mVal hlw (fun b hb => Nat.lt_of_lt_of_le (HKK.out b hb) hbw.size) hbY)
      have hbX : Below wr.heap.size wr X := hC.below _ _ hbY (Nat.le_refl _)
      have hJX := HJ.out.keep mRow hbX
      have hlen : (xs.take i).length = i := by simp; omega
      have hmx : i + 1 ≤ maxLen := by have := HBY.out; unfold maxLen; omega
      have hb24 : (i + 1) * 24 ≤ 140737488355328 := by have := HBY.out; omega
      obtain ⟨v', X2, e2, hJ2, hb2, hs2⟩ := OwnR.push mRow Tryz.underlying43 hj0 hj1 hj2 hj3 rfl (by omega) hJX (Nat.le_trans hbw.size hbX.size) (cs := [.slice p1 x.length c1]) (x := x) (K2 := From wr.heap.size X) rfl (fun c hc => by simp at hc; subst hc; rfl)
        (fun b hb => ⟨Nat.le_trans hbw.size hb.1, hb.2, fun e => by obtain ⟨_, _, _, ho, _⟩ := HJ.out; have := (ho.lt _ e).2; have := hb.1; omega⟩) ⟨_, rfl, hC.list⟩ (by rw [hlen]; exact hb24) (by rw [hlen]; exact hmx)
      have hRUN1 := hC.run
      have HJ2 : Hid (OwnR rRow 1 61 w.heap.size X2 v' (xs.take (i + 1))) := by rw [htk]; exact hJ2
      have HB2 : Hid (Below w.heap.size w X2) := hb2 _ _ (hbw.trans (hbX.mono hbw.size)) (Nat.le_refl _)
      have z0 : (0 : Int) ≤ (i : Int) := by omega
      have z1 : (i : Int) < (xs.length : Int) := by omega
      obtain ⟨pr, cr, rfl, _, _⟩ := id hl
      clear hc hcell hx HJ HB hKb hcl hbw hlw hbY hgY hbX hJX hlen hmx hb24 hJ2 hb2 hs2 hl htk hC
      go_wp2_with (first | (at_builtin; refine Lib.wpList_append_run _ rfl _ _ _ _ rfl _ _ rfl rfl _ _ hRUN1 ?_) | (at_builtin; refine Lib.wpList_append_run _ rfl _ _ _ _ rfl _ _ rfl rfl _ _ e2 ?_))
      go_roundg g'
      case measure => omega
      case rel => exact ⟨_, i + 1, rfl, by go_num, by omega, by omega, HJ2, HB2⟩
    · have z1 : ¬ (i : Int) < (xs.length : Int) := by omega
      have hJ := HJ.out
      rw [List.take_of_length_le (by omega)] at hJ
      obtain ⟨pf, cf, huf, hlf⟩ := hJ.list mRow HBY.out
      subst huf
      have HF : Hid (ListIs rRow 1 24 (From w.heap.size wr) wr (.slice pf xs.length cf) xs ∧ Below w.heap.size w wr) := ⟨hlf, HB.out⟩
      clear HJ hJ hlf HB
      go_wp2_with fail
      go_ret
      exact ⟨_, _, rfl, HF.out⟩
end Go.Proofs.YtgdjhkcllpkiiaaGreatDoor
/- Structs that are copied: the box that is changed and the answer's; a file. -/
namespace Go.Proofs.YtgdjhkcllpkiiaaGreatDoor
open Go.Shelf Go.RowKit Go.Lib
set_option linter.unusedVariables false
set_option linter.unusedSimpArgs false
attribute [local go_sem ↓] Go.wp_at_zero Go.wp_at_succ
/-- The boxes of a struct that is copied. -/
def Two (t : TypeId) (cl : List Value) (w W : World) : Prop :=
  W.heap[w.heap.size]? = some (.cells cl.toArray t (0, 0)) ∧ (∃ z : Array Value, z.size = cl.length ∧ W.heap[w.heap.size + 1]? = some (.cells z t (0, 0))) ∧ Below w.heap.size w W
theorem Two.start (w : World) (t : TypeId) (a z : Array Value) (h : z.size = a.size) : ∃ W0, (w.alloc (.cells a t)).alloc (.cells z t) = W0 ∧ Two t a.toList w W0 ∧ W0.heap.size = w.heap.size + 2 := by
  obtain ⟨W0, h1, h2, h3, h4, h5⟩ := two_boxes w a z t
  exact ⟨W0, h1, ⟨by simpa using h4, ⟨z, by simpa using h, h5⟩, h2⟩, h3⟩
theorem Two.lt {t : TypeId} {cl : List Value} {w W : World} (h : Two t cl w W) : w.heap.size + 2 ≤ W.heap.size := by
  obtain ⟨h1, ⟨z, _, h2⟩, _⟩ := h
  have := (Array.getElem?_eq_some_iff.1 h2).1
  omega
theorem Two.call {t : TypeId} {cl : List Value} {w W W' : World} (h : Two t cl w W) (hb : Below W.heap.size W W') : Two t cl w W' := by
  have hlt := h.lt
  obtain ⟨h1, ⟨z, hz, h2⟩, h3⟩ := h
  exact ⟨by rw [hb.block _ (by omega)]; exact h1, ⟨z, hz, by rw [hb.block _ (by omega)]; exact h2⟩, h3.trans (hb.mono h3.size)⟩
theorem Two.cell {t : TypeId} {cl : List Value} {w W : World} (h : Two t cl w W) {k : Nat} {v : Value} (hk : cl[k]? = some v) : W.cell? ⟨w.heap.size, k, none⟩ = some v := cell_of_row h.1 (by simpa using hk)
/-- One field is stored. -/
theorem Two.put {t : TypeId} {cl : List Value} {w W : World} (h : Two t cl w W) {k : Nat} (hk : k < cl.length) (v : Value) :
    ∃ W', W.setCell ⟨w.heap.size, k, none⟩ v = W' ∧ W.frozen? ⟨w.heap.size, k, none⟩ = false ∧ Two t (cl.set k v) w W' ∧ W'.heap.size = W.heap.size ∧ Kept (fun b => w.heap.size + 2 ≤ b) W W' := by
  obtain ⟨h1, ⟨z, hz, h2⟩, h3⟩ := h
  obtain ⟨a1, a2, a3, a4, a5⟩ := setCell_any W w.heap.size k v
  refine ⟨_, rfl, frozen_zero h1 k, ⟨?_, ⟨z, by simpa using hz, by rw [a5 _ (by omega)]; exact h2⟩, ⟨a2.trans h3.os, a3.trans h3.tape, a4.trans h3.output, by have := h3.size; omega, fun j hj => by rw [a5 j (by omega)]; exact h3.block j hj⟩⟩, a1, ⟨a2, a3, a4, by omega, fun b hb => a5 b (by omega)⟩⟩
  rw [heap_setCell_same W w.heap.size k cl.toArray t v h1]
  simp [List.setIfInBounds_toArray]
/-- The answer. -/
theorem Two.ret {t : TypeId} {cl : List Value} {w W : World} {d : TypeDesc} (h : Two t cl w W) (hu : Tryz.prog.underlying t = some d) (hd : d.isRow = true) (hi : (Tryz.prog.info? t).map (·.size) = some cl.length) :
    W.rangeAt w.heap.size 0 cl ∧ W.there (w.heap.size + 1) 0 cl.toArray.size ∧ ∃ W', W.setCells (w.heap.size + 1) 0 cl.toArray.toList = W' ∧ (loadVar t ⟨w.heap.size + 1, 0, none⟩).run Tryz.prog W' = .ok (.agg cl.toArray) W' ∧ Below w.heap.size w W' ∧ W'.heap.size = W.heap.size ∧ Kept (fun b => w.heap.size + 2 ≤ b) W W' := by
  obtain ⟨h1, ⟨z, hz, h2⟩, h3⟩ := h
  have ht : W.there (w.heap.size + 1) 0 cl.length := fun j hj => by
    rw [Nat.zero_add]
    refine ⟨?_, frozen_zero h2 j⟩
    rw [cellR h2 (Array.getElem?_eq_getElem (by omega : j < z.size))]
    rfl
  obtain ⟨a1, a2, a3, a4, a5⟩ := setCells_any (w.heap.size + 1) cl 0 W
  rw [show cl.toArray.toList = cl by simp]
  refine ⟨fun j v hv => ?_, by simpa using ht, _, rfl, run_loadVar_mid _ _ 0 t cl _ (World.rangeAt_setCells_same W (w.heap.size + 1) 0 cl ht) hu hd hi, ⟨a2.trans h3.os, a3.trans h3.tape, a4.trans h3.output, by have := h3.size; omega, fun j hj => by rw [a5 j (by omega)]; exact h3.block j hj⟩, a1, ⟨a2, a3, a4, by omega, fun b hb => a5 b (by omega)⟩⟩
  rw [Nat.zero_add]
  exact cell_of_row h1 (by simpa using hv)
/-- What is kept of a list when a field is stored. -/
theorem ListIs.kept {α : Type} {rel : Rel α} (hm : Mono rel) {size bytes B : Nat} {W W' : World} {v : Value} {xs : List α} (h : ListIs rel size bytes (From B W) W v xs) (hk : Kept (fun b => B ≤ b) W W') : ListIs rel size bytes (From B W') W' v xs :=
  h.mono hm (fun b hb => ⟨hb.1, Nat.lt_of_lt_of_le hb.2 hk.size⟩) (hk.less fun b hb => hb.1)
theorem ListIs.grow {α : Type} {rel : Rel α} (hm : Mono rel) {size bytes B : Nat} {W W' : World} {v : Value} {xs : List α} (h : ListIs rel size bytes (From B W) W v xs) (hb : Below W.heap.size W W') : ListIs rel size bytes (From B W') W' v xs :=
  h.mono hm (fun b h => ⟨h.1, Nat.lt_of_lt_of_le h.2 hb.size⟩) (kept_of (fun b h => h.2) hb)
theorem ListIs.less {α : Type} {rel : Rel α} (hm : Mono rel) {size bytes B C : Nat} {W : World} {v : Value} {xs : List α} (h : ListIs rel size bytes (From B W) W v xs) (hb : C ≤ B) : ListIs rel size bytes (From C W) W v xs :=
  h.mono hm (fun b h => ⟨by have := h.1; omega, h.2⟩) ⟨rfl, rfl, rfl, Nat.le_refl _, fun _ _ => rfl⟩
theorem inf142 : ∃ i0, Tryz.prog.info? 142 = some i0 ∧ i0.zero = some (.agg #[.string ⟨#[]⟩, .int .u8 0]) ∧ i0.size = 2 ∧ i0.bytes = 24 := by
  have h1 : (Tryz.prog.info? 142).bind (·.zero) = some (.agg #[.string ⟨#[]⟩, .int .u8 0]) := by kernel_rfl
  have h2 : (Tryz.prog.info? 142).map (·.size) = some 2 := by kernel_rfl
  have h3 : (Tryz.prog.info? 142).map (·.bytes) = some 24 := by kernel_rfl
  generalize Tryz.prog.info? 142 = i at *
  cases i with
  | none => cases h1
  | some i => exact ⟨i, rfl, h1, Option.some.inj h2, Option.some.inj h3⟩
theorem size46 : (Tryz.prog.info? 46).map (·.size) = some 6 := by kernel_rfl
set_option maxRecDepth 100000 in
set_option maxHeartbeats 4000000 in
theorem copyFile_any (cs : List Value) (r : Value) (x : Fh) (rs : List (List Val)) (K : Nat → Prop) (w : World) (h : rFh K w cs x) (hr : ListIs rRow 1 24 K w r rs) (hK : ∀ b, K b → b < w.heap.size) :
    Calls Tryz.prog 20 #[.agg (cs ++ [r]).toArray] w fun e w' => ∃ cs' r', e = .returned (.agg (cs' ++ [r']).toArray) ∧ rFh (From w.heap.size w') w' cs' x ∧ ListIs rRow 1 24 (From w.heap.size w') w' r' rs ∧ Below w.heap.size w w' := by
  obtain ⟨v, rfl, q1, q2, q3, hc⟩ := h
  simp only [List.cons_append, List.nil_append]
  have HQ : Hid (small x.t ∧ okV x.v ∧ I64 x.s) := ⟨q1, q2, q3⟩
  obtain ⟨W0, hW0, ht0, hs0⟩ := Two.start w 46 #[.string x.t, .int .u64 (x.v.b : Int), .int .u64 (x.v.l : Int), .int .i64 x.s, v, r] #[.string ⟨#[]⟩, .int .u64 0, .int .u64 0, .int .i64 0, .slice none 0 0, .slice none 0 0] rfl
  obtain ⟨k0, hk0, hk1, hk2, hk3⟩ := inf142
  obtain ⟨Y, hY⟩ : ∃ Y, W0.alloc (.cells #[] 142) = Y := ⟨_, rfl⟩
  have hbY : Below W0.heap.size W0 Y := by rw [← hY]; exact (Below.refl _ _).alloc (Nat.le_refl _) _
  have hgY : Y.heap[W0.heap.size]? = some (.cells #[] 142 (0, 0)) := by rw [← hY]; exact heap_alloc_new W0 _
  have hlt0 := ht0.lt
  have tY := ht0.call hbY
  obtain ⟨X, p1, c1, hC⟩ := cpy_list fCl Tryz.underlying44 hk0 hk1 hk2 hk3 rfl (by omega) (by omega) hgY (ListIs.later mCl hc hK tY.2.2)
  have hbX : Below W0.heap.size W0 X := hC.below _ _ hbY (Nat.le_refl _)
  have tX := ht0.call hbX
  obtain ⟨X2, hX2, f2, t2, s2, k2⟩ := tX.put (k := 4) (by simp) (.slice p1 x.c.length c1)
  have l2 := (hC.list.less mCl (C := w.heap.size + 2) (by omega)).kept mCl k2
  have CR := copyRows_any r rs K X2 (ListIs.later mRow hr hK t2.2.2) (fun b hb => Nat.lt_of_lt_of_le (hK b hb) t2.2.2.size)
  have c4 := ht0.cell (k := 4) (v := v) rfl
  have c4Y := tY.cell (k := 4) (v := v) rfl
  have c4X := tX.cell (k := 4) (v := v) rfl
  have c5 := t2.cell (k := 5) (v := r) rfl
  have HCR : Hid (Calls Tryz.prog 19 #[r] X2 fun e w' => CpP rRow 1 24 rs X2 e w') := CR
  have hRUN1 := hC.run
  rw [hs0] at hRUN1
  have HT2 : Hid (Two 46 [.string x.t, .int .u64 (x.v.b : Int), .int .u64 (x.v.l : Int), .int .i64 x.s, .slice p1 x.c.length c1, r] w X2) := t2
  have HL2 : Hid (ListIs rCl 2 24 (From (w.heap.size + 2) X2) X2 (.slice p1 x.c.length c1) x.c) := l2
  have HW2 : Hid (w.heap.size + 2 ≤ X2.heap.size) := t2.lt
  obtain ⟨pr, cr, rfl, nn1, nn2⟩ := id hr
  obtain ⟨pc, cc, rfl, nn3, nn4⟩ := id hc
  clear nn1 nn2 nn3 nn4
  clear CR t2 l2 hC tX hbX tY hbY hgY ht0 hlt0 k2 s2 hr hc hK
  go_enter Tryz.func20, Tryz.ntmps20
  go_wp2_with (at_builtin; refine Lib.wpList_append_run _ rfl _ _ _ _ rfl _ _ rfl rfl _ _ hRUN1 ?_)
  refine HCR.out.mono ?_
  rintro e w3 ⟨p2, c2, rfl, hl2, hb3⟩
  have t3 := HT2.out.call hb3
  have l3 := HL2.out.grow mCl hb3
  have m3 := hl2.less mRow HW2.out
  obtain ⟨W4, hW4, f4, t4, s4, k4⟩ := t3.put (k := 5) (by simp) (.slice p2 rs.length c2)
  have l4 := l3.kept mCl k4
  have m4 := m3.kept mRow k4
  have c5' := t3.cell (k := 5) (v := .slice pr rs.length cr) rfl
  obtain ⟨hra, hth, W5, hW5, hld, hb5, s5, k5⟩ := t4.ret Tryz.underlying46 rfl size46
  have l5 := (l4.kept mCl k5).less mCl (C := w.heap.size) (by omega)
  have m5 := (m4.kept mRow k5).less mRow (C := w.heap.size) (by omega)
  have HRA : Hid (W4.rangeAt w.heap.size 0 [.string x.t, .int .u64 (x.v.b : Int), .int .u64 (x.v.l : Int), .int .i64 x.s, .slice p1 x.c.length c1, .slice p2 rs.length c2]) := hra
  have HTH : Hid (W4.there (w.heap.size + 1) 0 6) := hth
  have HW5 : Hid (W4.setCells (w.heap.size + 1) 0 (#[.string x.t, .int .u64 (x.v.b : Int), .int .u64 (x.v.l : Int), .int .i64 x.s, .slice p1 x.c.length c1, .slice p2 rs.length c2] : Array Value).toList = W5) := hW5
  have HON : Hid ((#[.string x.t, .int .u64 (x.v.b : Int), .int .u64 (x.v.l : Int), .int .i64 x.s, .slice p1 x.c.length c1, .slice p2 rs.length c2] : Array Value).all (·.oneCell') = true) := by show _ = _; simp [Value.oneCell']
  have HLD : Hid ((loadVar 46 ⟨w.heap.size + 1, 0, none⟩).run Tryz.prog W5 = .ok (.agg #[.string x.t, .int .u64 (x.v.b : Int), .int .u64 (x.v.l : Int), .int .i64 x.s, .slice p1 x.c.length c1, .slice p2 rs.length c2]) W5) := hld
  have HF : Hid (ListIs rCl 2 24 (From w.heap.size W5) W5 (.slice p1 x.c.length c1) x.c ∧ ListIs rRow 1 24 (From w.heap.size W5) W5 (.slice p2 rs.length c2) rs ∧ Below w.heap.size w W5) := ⟨l5, m5, hb5⟩
  clear t3 l3 m3 t4 l4 m4 hra hth hW5 hld hb5 l5 m5 hl2 hb3 s4 k4 s5 k5
  go_wp2_with (first | (refine wpList_load_mid rfl 46 _ rfl w.heap.size 0 rfl _ _ HRA.out Tryz.underlying46 rfl size46 ?_) | (refine wpList_store_mid rfl 46 _ _ rfl (w.heap.size + 1) 0 #[.string x.t, .int .u64 (x.v.b : Int), .int .u64 (x.v.l : Int), .int .i64 x.s, .slice p1 x.c.length c1, .slice p2 rs.length c2] rfl rfl HTH.out size46 HON.out ?_; rw [HW5.out]))
  refine bodyPost_ret (v := .agg #[.string x.t, .int .u64 (x.v.b : Int), .int .u64 (x.v.l : Int), .int .i64 x.s, .slice p1 x.c.length c1, .slice p2 rs.length c2]) (by simp only [results, Tryz.results20]; simp [asAddr, Act.put, HLD.out]) rfl ?_
  exact ⟨[.string x.t, .int .u64 (x.v.b : Int), .int .u64 (x.v.l : Int), .int .i64 x.s, .slice p1 x.c.length c1], _, rfl, ⟨_, rfl, HQ.out.1, HQ.out.2.1, HQ.out.2.2, HF.out.1⟩, HF.out.2.1, HF.out.2.2⟩
end Go.Proofs.YtgdjhkcllpkiiaaGreatDoor
/- One field that is copied; a fragment. -/
namespace Go.Proofs.YtgdjhkcllpkiiaaGreatDoor
open Go.Shelf Go.RowKit Go.Lib
set_option linter.unusedVariables false
set_option linter.unusedSimpArgs false
attribute [local go_sem ↓] Go.wp_at_zero Go.wp_at_succ
theorem ListIs.onw {α : Type} {rel : Rel α} (hm : Mono rel) {size bytes B : Nat} {W W' : World} {v : Value} {xs : List α} (h : ListIs rel size bytes (From B W) W v xs) (hk : Kept (From B W) W W') : ListIs rel size bytes (From B W') W' v xs :=
  h.mono hm (fun b hb => ⟨hb.1, Nat.lt_of_lt_of_le hb.2 hk.size⟩) hk
/-- What a field's copy leaves: X behind the append, Y ahead of it, V behind the store. -/
structure App {α : Type} (rel : Rel α) (size bytes : Nat) (ts te t : TypeId) (cl : List Value) (w W : World) (k : Nat) (vx : Value) (xs : List α) (Y X V : World) (p : Option Addr) (c : Nat) : Prop where
  made : W.alloc (.cells #[] te) = Y
  c0 : W.cell? ⟨w.heap.size, k, none⟩ = some vx
  c1 : Y.cell? ⟨w.heap.size, k, none⟩ = some vx
  c2 : X.cell? ⟨w.heap.size, k, none⟩ = some vx
  run : (Builtin.append_ #[ts, ts] ts #[.slice (some ⟨W.heap.size, 0, none⟩) 0 0, vx]).run Tryz.prog Y = .ok (.slice p xs.length c) X
  stored : X.setCell ⟨w.heap.size, k, none⟩ (.slice p xs.length c) = V
  free : X.frozen? ⟨w.heap.size, k, none⟩ = false
  two : Two t (cl.set k (.slice p xs.length c)) w V
  list : ListIs rel size bytes (From (w.heap.size + 2) V) V (.slice p xs.length c) xs
  kept : Kept (From (w.heap.size + 2) W) W V
theorem Two.app {α : Type} {rel : Rel α} (hf : Flat rel) (hm : Mono rel) {size bytes : Nat} {ts te t : TypeId} {i0 : TypeInfo} {z : Value} (hu : Tryz.prog.underlying ts = some (.slice te)) (hi : Tryz.prog.info? te = some i0) (hz : i0.zero = some z) (hs : i0.size = size) (hby : i0.bytes = bytes) (hzs : z.cells.size = size) (hs0 : 0 < size) (hb0 : 0 < bytes)
    {cl : List Value} {w W : World} (ht : Two t cl w W) {k : Nat} {vx : Value} (hk : cl[k]? = some vx) {K : Nat → Prop} {xs : List α} (h : ListIs rel size bytes K w vx xs) (hK : ∀ b, K b → b < w.heap.size) :
    ∃ Y X V p c, App rel size bytes ts te t cl w W k vx xs Y X V p c := by
  obtain ⟨Y, hY⟩ : ∃ Y, W.alloc (.cells #[] te) = Y := ⟨_, rfl⟩
  have hbY : Below W.heap.size W Y := by rw [← hY]; exact (Below.refl _ _).alloc (Nat.le_refl _) _
  have hgY : Y.heap[W.heap.size]? = some (.cells #[] te (0, 0)) := by rw [← hY]; exact heap_alloc_new W _
  have hlt := ht.lt
  have tY := ht.call hbY
  obtain ⟨X, p, c, hC⟩ := cpy_list hf hu hi hz hs hby hzs hs0 hb0 hgY (ListIs.later hm h hK tY.2.2)
  have hbX : Below W.heap.size W X := hC.below _ _ hbY (Nat.le_refl _)
  have tX := ht.call hbX
  have hkl : k < cl.length := (List.getElem?_eq_some_iff.1 hk).1
  obtain ⟨V, hV, fV, tV, sV, kV⟩ := tX.put hkl (.slice p xs.length c)
  exact ⟨Y, X, V, p, c, hY, ht.cell hk, tY.cell hk, tX.cell hk, hC.run, hV, fV, tV, (hC.list.less hm (by omega)).kept hm kV, (kept_of (fun b hb => hb.2) hbX).trans (kV.less fun b hb => hb.1)⟩
theorem inf3 : ∃ i0, Tryz.prog.info? 3 = some i0 ∧ i0.zero = some (.int .i64 0) ∧ i0.size = 1 ∧ i0.bytes = 8 := by
  have h1 : (Tryz.prog.info? 3).bind (·.zero) = some (.int .i64 0) := by kernel_rfl
  have h2 : (Tryz.prog.info? 3).map (·.size) = some 1 := by kernel_rfl
  have h3 : (Tryz.prog.info? 3).map (·.bytes) = some 8 := by kernel_rfl
  generalize Tryz.prog.info? 3 = i at *
  cases i with
  | none => cases h1
  | some i => exact ⟨i, rfl, h1, Option.some.inj h2, Option.some.inj h3⟩
theorem size42 : (Tryz.prog.info? 42).map (·.size) = some 17 := by kernel_rfl
set_option maxRecDepth 100000 in
set_option maxHeartbeats 4000000 in
theorem copyFrag_any (cs : List Value) (x : Frg) (K : Nat → Prop) (w : World) (h : rFrg K w cs x) (hK : ∀ b, K b → b < w.heap.size) :
    Calls Tryz.prog 18 #[.agg cs.toArray] w fun e w' => ∃ cs', e = .returned (.agg cs'.toArray) ∧ rFrg (From w.heap.size w') w' cs' x ∧ Below w.heap.size w w' := by
  obtain ⟨d1, d2, v3, rfl, q1, q2, ⟨v1, rfl, q3, q4, q5, q6, h1⟩, ⟨v2, rfl, q7, q8, q9, q10, h2⟩, q11, h3⟩ := h
  simp only [List.cons_append, List.nil_append]
  have HQ : Hid ((I64 x.id ∧ I64 x.nd ∧ I64 x.by_) ∧ (x.l.k < 256 ∧ small x.l.t ∧ okV x.l.v ∧ I64 x.l.s) ∧ (x.r.k < 256 ∧ small x.r.t ∧ okV x.r.v ∧ I64 x.r.s)) := ⟨⟨q1, q2, q11⟩, ⟨q3, q4, q5, q6⟩, ⟨q7, q8, q9, q10⟩⟩
  obtain ⟨k0, hk0, hk1, hk2, hk3⟩ := inf3
  obtain ⟨W0, hW0, t0, hs0⟩ := Two.start w 42 #[.int .i64 x.id, .int .i64 x.nd, .int .u8 (x.l.k : Int), .string x.l.t, .int .u64 (x.l.v.b : Int), .int .u64 (x.l.v.l : Int), .int .i64 x.l.s, v1, .int .u8 (x.r.k : Int), .string x.r.t, .int .u64 (x.r.v.b : Int), .int .u64 (x.r.v.l : Int), .int .i64 x.r.s, v2, .bool x.raw, .int .i64 x.by_, v3] #[.int .i64 0, .int .i64 0, .int .u8 0, .string ⟨#[]⟩, .int .u64 0, .int .u64 0, .int .i64 0, .slice none 0 0, .int .u8 0, .string ⟨#[]⟩, .int .u64 0, .int .u64 0, .int .i64 0, .slice none 0 0, .bool false, .int .i64 0, .slice none 0 0] rfl
  obtain ⟨Y1, X1, V1, p1, c1, A1⟩ := t0.app fInt mInt Tryz.underlying29 hk0 hk1 hk2 hk3 rfl (by omega) (by omega) (k := 7) rfl h1 hK
  obtain ⟨Y2, X2, V2, p2, c2, A2⟩ := A1.two.app fInt mInt Tryz.underlying29 hk0 hk1 hk2 hk3 rfl (by omega) (by omega) (k := 13) rfl h2 hK
  obtain ⟨Y3, X3, V3, p3, c3, A3⟩ := A2.two.app fInt mInt Tryz.underlying29 hk0 hk1 hk2 hk3 rfl (by omega) (by omega) (k := 16) rfl h3 hK
  obtain ⟨hra, hth, W5, hW5, hld, hb5, s5, k5⟩ := A3.two.ret Tryz.underlying42 rfl size42
  have l1 := ((((A1.list.onw mInt A2.kept).onw mInt A3.kept).kept mInt k5).less mInt (C := w.heap.size) (by omega))
  have l2 := (((A2.list.onw mInt A3.kept).kept mInt k5).less mInt (C := w.heap.size) (by omega))
  have l3 := ((A3.list.kept mInt k5).less mInt (C := w.heap.size) (by omega))
  have HRA : Hid (V3.rangeAt w.heap.size 0 [.int .i64 x.id, .int .i64 x.nd, .int .u8 (x.l.k : Int), .string x.l.t, .int .u64 (x.l.v.b : Int), .int .u64 (x.l.v.l : Int), .int .i64 x.l.s, .slice p1 x.l.f.length c1, .int .u8 (x.r.k : Int), .string x.r.t, .int .u64 (x.r.v.b : Int), .int .u64 (x.r.v.l : Int), .int .i64 x.r.s, .slice p2 x.r.f.length c2, .bool x.raw, .int .i64 x.by_, .slice p3 x.to.length c3]) := hra
  have HTH : Hid (V3.there (w.heap.size + 1) 0 17) := hth
  have HW5 : Hid (V3.setCells (w.heap.size + 1) 0 (#[.int .i64 x.id, .int .i64 x.nd, .int .u8 (x.l.k : Int), .string x.l.t, .int .u64 (x.l.v.b : Int), .int .u64 (x.l.v.l : Int), .int .i64 x.l.s, .slice p1 x.l.f.length c1, .int .u8 (x.r.k : Int), .string x.r.t, .int .u64 (x.r.v.b : Int), .int .u64 (x.r.v.l : Int), .int .i64 x.r.s, .slice p2 x.r.f.length c2, .bool x.raw, .int .i64 x.by_, .slice p3 x.to.length c3] : Array Value).toList = W5) := hW5
  have HON : Hid ((#[.int .i64 x.id, .int .i64 x.nd, .int .u8 (x.l.k : Int), .string x.l.t, .int .u64 (x.l.v.b : Int), .int .u64 (x.l.v.l : Int), .int .i64 x.l.s, .slice p1 x.l.f.length c1, .int .u8 (x.r.k : Int), .string x.r.t, .int .u64 (x.r.v.b : Int), .int .u64 (x.r.v.l : Int), .int .i64 x.r.s, .slice p2 x.r.f.length c2, .bool x.raw, .int .i64 x.by_, .slice p3 x.to.length c3] : Array Value).all (·.oneCell') = true) := by show _ = _; simp [Value.oneCell']
  have HLD : Hid ((loadVar 42 ⟨w.heap.size + 1, 0, none⟩).run Tryz.prog W5 = .ok (.agg #[.int .i64 x.id, .int .i64 x.nd, .int .u8 (x.l.k : Int), .string x.l.t, .int .u64 (x.l.v.b : Int), .int .u64 (x.l.v.l : Int), .int .i64 x.l.s, .slice p1 x.l.f.length c1, .int .u8 (x.r.k : Int), .string x.r.t, .int .u64 (x.r.v.b : Int), .int .u64 (x.r.v.l : Int), .int .i64 x.r.s, .slice p2 x.r.f.length c2, .bool x.raw, .int .i64 x.by_, .slice p3 x.to.length c3]) W5) := hld
  have HF : Hid (ListIs rInt 1 8 (From w.heap.size W5) W5 (.slice p1 x.l.f.length c1) x.l.f ∧ ListIs rInt 1 8 (From w.heap.size W5) W5 (.slice p2 x.r.f.length c2) x.r.f ∧ ListIs rInt 1 8 (From w.heap.size W5) W5 (.slice p3 x.to.length c3) x.to ∧ Below w.heap.size w W5) := ⟨l1, l2, l3, hb5⟩
  obtain ⟨m1, a0, a1, a2, r1, st1, fr1, _, _, _⟩ := A1
  obtain ⟨m2, b0, b1, b2, r2, st2, fr2, _, _, _⟩ := A2
  obtain ⟨m3, d0, d1, d2, r3, st3, fr3, _, _, _⟩ := A3
  obtain ⟨z1, y1, rfl, nn1, nn2⟩ := id h1
  obtain ⟨z2, y2, rfl, nn3, nn4⟩ := id h2
  obtain ⟨z3, y3, rfl, nn5, nn6⟩ := id h3
  clear nn1 nn2 nn3 nn4 nn5 nn6 l1 l2 l3 hra hth hW5 hld hb5 s5 k5 t0 hs0 h1 h2 h3 hK q1 q2 q3 q4 q5 q6 q7 q8 q9 q10 q11
  go_enter Tryz.func18, Tryz.ntmps18
  go_wp2_with (first | (at_builtin; refine Lib.wpList_append_run _ rfl _ _ _ _ rfl (.slice (some ⟨W0.heap.size, 0, none⟩) 0 0) (.slice z1 x.l.f.length y1) rfl rfl _ _ r1 ?_) | (at_builtin; refine Lib.wpList_append_run _ rfl _ _ _ _ rfl (.slice (some ⟨V1.heap.size, 0, none⟩) 0 0) (.slice z2 x.r.f.length y2) rfl rfl _ _ r2 ?_) | (at_builtin; refine Lib.wpList_append_run _ rfl _ _ _ _ rfl (.slice (some ⟨V2.heap.size, 0, none⟩) 0 0) (.slice z3 x.to.length y3) rfl rfl _ _ r3 ?_) | (refine wpList_load_mid rfl 42 _ rfl w.heap.size 0 rfl _ _ HRA.out Tryz.underlying42 rfl size42 ?_) | (refine wpList_store_mid rfl 42 _ _ rfl (w.heap.size + 1) 0 #[.int .i64 x.id, .int .i64 x.nd, .int .u8 (x.l.k : Int), .string x.l.t, .int .u64 (x.l.v.b : Int), .int .u64 (x.l.v.l : Int), .int .i64 x.l.s, .slice p1 x.l.f.length c1, .int .u8 (x.r.k : Int), .string x.r.t, .int .u64 (x.r.v.b : Int), .int .u64 (x.r.v.l : Int), .int .i64 x.r.s, .slice p2 x.r.f.length c2, .bool x.raw, .int .i64 x.by_, .slice p3 x.to.length c3] rfl rfl HTH.out size42 HON.out ?_; rw [HW5.out]))
  refine bodyPost_ret (v := .agg #[.int .i64 x.id, .int .i64 x.nd, .int .u8 (x.l.k : Int), .string x.l.t, .int .u64 (x.l.v.b : Int), .int .u64 (x.l.v.l : Int), .int .i64 x.l.s, .slice p1 x.l.f.length c1, .int .u8 (x.r.k : Int), .string x.r.t, .int .u64 (x.r.v.b : Int), .int .u64 (x.r.v.l : Int), .int .i64 x.r.s, .slice p2 x.r.f.length c2, .bool x.raw, .int .i64 x.by_, .slice p3 x.to.length c3]) (by simp only [results, Tryz.results18]; simp [asAddr, Act.put, HLD.out]) rfl ?_
  have hq := HQ.out
  exact ⟨[.int .i64 x.id, .int .i64 x.nd, .int .u8 (x.l.k : Int), .string x.l.t, .int .u64 (x.l.v.b : Int), .int .u64 (x.l.v.l : Int), .int .i64 x.l.s, .slice p1 x.l.f.length c1, .int .u8 (x.r.k : Int), .string x.r.t, .int .u64 (x.r.v.b : Int), .int .u64 (x.r.v.l : Int), .int .i64 x.r.s, .slice p2 x.r.f.length c2, .bool x.raw, .int .i64 x.by_, .slice p3 x.to.length c3], rfl, ⟨[.int .u8 (x.l.k : Int), .string x.l.t, .int .u64 (x.l.v.b : Int), .int .u64 (x.l.v.l : Int), .int .i64 x.l.s, .slice p1 x.l.f.length c1], [.int .u8 (x.r.k : Int), .string x.r.t, .int .u64 (x.r.v.b : Int), .int .u64 (x.r.v.l : Int), .int .i64 x.r.s, .slice p2 x.r.f.length c2], _, rfl, hq.1.1, hq.1.2.1, ⟨_, rfl, hq.2.1.1, hq.2.1.2.1, hq.2.1.2.2.1, hq.2.1.2.2.2, HF.out.1⟩, ⟨_, rfl, hq.2.2.1, hq.2.2.2.1, hq.2.2.2.2.1, hq.2.2.2.2.2, HF.out.2.1⟩, hq.1.2.2, HF.out.2.2.1⟩, HF.out.2.2.2⟩
end Go.Proofs.YtgdjhkcllpkiiaaGreatDoor
/- A claim that is copied. -/
namespace Go.Proofs.YtgdjhkcllpkiiaaGreatDoor
open Go.Shelf Go.RowKit Go.Lib
set_option linter.unusedVariables false
set_option linter.unusedSimpArgs false
attribute [local go_sem ↓] Go.wp_at_zero Go.wp_at_succ
theorem inf29 : ∃ i0, Tryz.prog.info? 29 = some i0 ∧ i0.zero = some (.slice none 0 0) ∧ i0.size = 1 ∧ i0.bytes = 24 := by
  have h1 : (Tryz.prog.info? 29).bind (·.zero) = some (.slice none 0 0) := by kernel_rfl
  have h2 : (Tryz.prog.info? 29).map (·.size) = some 1 := by kernel_rfl
  have h3 : (Tryz.prog.info? 29).map (·.bytes) = some 24 := by kernel_rfl
  generalize Tryz.prog.info? 29 = i at *
  cases i with
  | none => cases h1
  | some i => exact ⟨i, rfl, h1, Option.some.inj h2, Option.some.inj h3⟩
theorem size67 : (Tryz.prog.info? 67).map (·.size) = some 5 := by kernel_rfl
set_option maxRecDepth 100000 in
set_option maxHeartbeats 4000000 in
theorem copyClaim_any (cs : List Value) (x : Clm) (K : Nat → Prop) (w : World) (h : rClm K w cs x) (hK : ∀ b, K b → b < w.heap.size) :
    Calls Tryz.prog 34 #[.agg cs.toArray] w fun e w' => ∃ cs', e = .returned (.agg cs'.toArray) ∧ rClm (From w.heap.size w') w' cs' x ∧ Below w.heap.size w w' := by
  obtain ⟨v1, v2, rfl, q1, h1, q2, h2⟩ := h
  have HQ : Hid (small x.t ∧ okV x.v) := ⟨q1, q2⟩
  obtain ⟨k0, hk0, hk1, hk2, hk3⟩ := inf142
  obtain ⟨j0, hj0, hj1, hj2, hj3⟩ := inf29
  obtain ⟨i0, hi0, hi1, hi2, hi3⟩ := inf3
  obtain ⟨W0, hW0, t0, hs0⟩ := Two.start w 67 #[.string x.t, v1, .int .u64 (x.v.b : Int), .int .u64 (x.v.l : Int), v2] #[.string ⟨#[]⟩, .slice none 0 0, .int .u64 0, .int .u64 0, .slice none 0 0] rfl
  obtain ⟨Y1, X1, V1, p1, c1, A1⟩ := t0.app fCl mCl Tryz.underlying44 hk0 hk1 hk2 hk3 rfl (by omega) (by omega) (k := 1) rfl h1 hK
  have HT1 : Hid (Two 67 [.string x.t, .slice p1 x.c.length c1, .int .u64 (x.v.b : Int), .int .u64 (x.v.l : Int), v2] w V1) := A1.two
  have HL1 : Hid (ListIs rCl 2 24 (From (w.heap.size + 2) V1) V1 (.slice p1 x.c.length c1) x.c) := A1.list
  have e4 := HT1.out.cell (k := 4) (v := v2) rfl
  have hO : ListIs rInts 1 24 K V1 v2 x.o := ListIs.later mInts h2 hK HT1.out.2.2
  have HKK : Hid (∀ b, K b → b < V1.heap.size) := fun b hb => Nat.lt_of_lt_of_le (hK b hb) HT1.out.2.2.size
  obtain ⟨xs, hxs⟩ : ∃ xs, x.o = xs := ⟨_, rfl⟩
  rw [hxs] at hO
  obtain ⟨p, c, rfl, hby, hp⟩ := hO
  have HP : Hid (0 < xs.length → ∃ b o, p = some ⟨b, o, none⟩ ∧ K b ∧ ∀ (j : Nat) (h : j < xs.length), ∃ cs, cs.length = 1 ∧ (∀ (i : Nat) (u : Value), cs[i]? = some u → V1.cell? ⟨b, o + j * 1 + i, none⟩ = some u) ∧ rInts K V1 cs xs[j]) := hp
  have HBY : Hid (xs.length * 24 ≤ 140737488355328) := hby
  have HJ : Hid (OwnR rInts 1 29 V1.heap.size V1 (.slice none 0 0) (xs.take 0)) := OwnR.nil
  have hx63 : xs.length ≤ 140737488355328 := by omega
  obtain ⟨m1, a0, a1, a2, r1, st1, fr1, _, _, _⟩ := A1
  obtain ⟨z1, y1, rfl, nn1, nn2⟩ := id h1
  have HXS : Hid (x.o = xs) := hxs
  clear nn1 nn2 t0 hs0 h1 h2 hK q1 q2 hp hby hxs
  go_enter Tryz.func34, Tryz.ntmps34
  go_wp2_with (at_builtin; refine Lib.wpList_append_run _ rfl _ _ _ _ rfl (.slice (some ⟨W0.heap.size, 0, none⟩) 0 0) (.slice z1 x.c.length y1) rfl rfl _ _ r1 ?_)
  clear m1 a0 a1 a2 r1 st1 fr1 hW0
  go_loopg [3, 14] xs.length (fun gf s3 s8 wx => ∃ (u : Value) (i : Nat), u = s3 ∧ s8 = .int .i64 i ∧ i ≤ xs.length ∧ xs.length ≤ i + gf ∧ Hid (OwnR rInts 1 29 V1.heap.size wx u (xs.take i)) ∧ Hid (Below V1.heap.size V1 wx))
  case atStart => exact ⟨_, 0, rfl, rfl, by omega, by omega, HJ, Below.refl _ _⟩
  case round =>
    clear HJ
    obtain ⟨u, i, rfl, rfl, hi1', hgf, HJ, HB⟩ := hrel
    by_cases hi : i < xs.length
    · obtain ⟨g', rfl⟩ : ∃ g', gk = g' + 1 := ⟨gk - 1, by omega⟩
      obtain ⟨b, o, rfl, hKb, hc⟩ := HP.out (by omega)
      obtain ⟨cs, hcl, hcell, hrel1⟩ := hc i hi
      have htk : xs.take (i + 1) = xs.take i ++ [xs[i]] := List.take_succ_eq_append_getElem hi
      obtain ⟨y, hy⟩ : ∃ y, xs[i] = y := ⟨_, rfl⟩
      rw [hy] at hrel1 htk
      obtain ⟨vr, rfl, hl⟩ := hrel1
      have hbw := HB.out
      have c0 : wr.cell? ⟨b, o + i, none⟩ = some vr := by
        rw [hbw.cell (p := ⟨b, _, none⟩) (HKK.out _ hKb)]
        have := hcell 0 vr rfl
        simpa using this
      have hlw : ListIs rInt 1 8 K wr vr y := ListIs.later mInt hl HKK.out hbw
      obtain ⟨Y, hY⟩ : ∃ Y, wr.alloc (.cells #[] 3) = Y := ⟨_, rfl⟩
      have hbY : Below wr.heap.size wr Y := by rw [← hY]; exact (Below.refl _ _).alloc (Nat.le_refl _) _
      have hgY : Y.heap[wr.heap.size]? = some (.cells #[] 3 (0, 0)) := by rw [← hY]; exact heap_alloc_new wr _
      obtain ⟨X, p9, c9, hC⟩ := cpy_list fInt Tryz.underlying29 hi0 hi1 hi2 hi3 rfl (by omega) (by omega) hgY (ListIs.later mInt hlw (fun b hb => Nat.lt_of_lt_of_le (HKK.out b hb) hbw.size) hbY)
      have hbX : Below wr.heap.size wr X := hC.below _ _ hbY (Nat.le_refl _)
      have hJX := HJ.out.keep mInts hbX
      have hlen : (xs.take i).length = i := by simp; omega
      have hmx : i + 1 ≤ maxLen := by have := HBY.out; unfold maxLen; omega
      have hb24 : (i + 1) * 24 ≤ 140737488355328 := by have := HBY.out; omega
      obtain ⟨v', X2, e2, hJ2, hb2, hs2⟩ := OwnR.push mInts Tryz.underlying65 hj0 hj1 hj2 hj3 rfl (by omega) hJX (Nat.le_trans hbw.size hbX.size) (cs := [.slice p9 y.length c9]) (x := y) (K2 := From wr.heap.size X) rfl (fun c hc => by simp at hc; subst hc; rfl)
        (fun b hb => ⟨Nat.le_trans hbw.size hb.1, hb.2, fun e => by obtain ⟨_, _, _, ho, _⟩ := HJ.out; have := (ho.lt _ e).2; have := hb.1; omega⟩) ⟨_, rfl, hC.list⟩ (by rw [hlen]; exact hb24) (by rw [hlen]; exact hmx)
      have hRUN1 := hC.run
      have HJ2 : Hid (OwnR rInts 1 29 V1.heap.size X2 v' (xs.take (i + 1))) := by rw [htk]; exact hJ2
      have HB2 : Hid (Below V1.heap.size V1 X2) := hb2 _ _ (hbw.trans (hbX.mono hbw.size)) (Nat.le_refl _)
      have z0 : (0 : Int) ≤ (i : Int) := by omega
      have z1 : (i : Int) < (xs.length : Int) := by omega
      obtain ⟨pr, cr, rfl, _, _⟩ := id hl
      clear hc hcell hy HJ HB hKb hcl hbw hlw hbY hgY hbX hJX hlen hmx hb24 hJ2 hb2 hs2 hl htk hC
      go_wp2_with (first | (at_builtin; refine Lib.wpList_append_run _ rfl _ _ _ _ rfl (.slice (some ⟨wr.heap.size, 0, none⟩) 0 0) (.slice pr y.length cr) rfl rfl _ _ hRUN1 ?_) | (at_builtin; refine Lib.wpList_append_run _ rfl _ _ _ _ rfl u _ rfl rfl _ _ e2 ?_))
      go_roundg g'
      case measure => omega
      case rel => exact ⟨_, i + 1, rfl, by go_num, by omega, by omega, HJ2, HB2⟩
    · have z1 : ¬ (i : Int) < (xs.length : Int) := by omega
      have hJ := HJ.out
      rw [List.take_of_length_le (by omega)] at hJ
      obtain ⟨pf, cf, huf, hlf⟩ := hJ.list mInts HBY.out
      subst huf
      have t2 := HT1.out.call HB.out
      have l2 := HL1.out.grow mCl HB.out
      have m2 := hlf.less mInts HT1.out.lt
      obtain ⟨V2, hV2, f2, t3, s3, k3⟩ := t2.put (k := 4) (by simp) (.slice pf xs.length cf)
      have c4 := t2.cell (k := 4) (v := .slice p xs.length c) rfl
      obtain ⟨hra, hth, W5, hW5, hld, hb5, s5, k5⟩ := t3.ret Tryz.underlying67 rfl size67
      have l5 := ((l2.kept mCl k3).kept mCl k5).less mCl (C := w.heap.size) (by omega)
      have m5 := ((m2.kept mInts k3).kept mInts k5).less mInts (C := w.heap.size) (by omega)
      have HRA : Hid (V2.rangeAt w.heap.size 0 [.string x.t, .slice p1 x.c.length c1, .int .u64 (x.v.b : Int), .int .u64 (x.v.l : Int), .slice pf xs.length cf]) := hra
      have HTH : Hid (V2.there (w.heap.size + 1) 0 5) := hth
      have HW5 : Hid (V2.setCells (w.heap.size + 1) 0 (#[.string x.t, .slice p1 x.c.length c1, .int .u64 (x.v.b : Int), .int .u64 (x.v.l : Int), .slice pf xs.length cf] : Array Value).toList = W5) := hW5
      have HON : Hid ((#[.string x.t, .slice p1 x.c.length c1, .int .u64 (x.v.b : Int), .int .u64 (x.v.l : Int), .slice pf xs.length cf] : Array Value).all (·.oneCell') = true) := by show _ = _; simp [Value.oneCell']
      have HLD : Hid ((loadVar 67 ⟨w.heap.size + 1, 0, none⟩).run Tryz.prog W5 = .ok (.agg #[.string x.t, .slice p1 x.c.length c1, .int .u64 (x.v.b : Int), .int .u64 (x.v.l : Int), .slice pf xs.length cf]) W5) := hld
      have HF : Hid (ListIs rCl 2 24 (From w.heap.size W5) W5 (.slice p1 x.c.length c1) x.c ∧ ListIs rInts 1 24 (From w.heap.size W5) W5 (.slice pf xs.length cf) xs ∧ Below w.heap.size w W5) := ⟨l5, m5, hb5⟩
      clear HJ hJ hlf HB t2 l2 m2 t3 s3 k3 hra hth hW5 hld hb5 s5 k5 l5 m5
      go_wp2_with (first | (refine wpList_load_mid rfl 67 _ rfl w.heap.size 0 rfl _ _ HRA.out Tryz.underlying67 rfl size67 ?_) | (refine wpList_store_mid rfl 67 _ _ rfl (w.heap.size + 1) 0 #[.string x.t, .slice p1 x.c.length c1, .int .u64 (x.v.b : Int), .int .u64 (x.v.l : Int), .slice pf xs.length cf] rfl rfl HTH.out size67 HON.out ?_; rw [HW5.out]))
      refine bodyPost_ret (v := .agg #[.string x.t, .slice p1 x.c.length c1, .int .u64 (x.v.b : Int), .int .u64 (x.v.l : Int), .slice pf xs.length cf]) (by simp only [results, Tryz.results34]; simp [asAddr, Act.put, HLD.out]) rfl ?_
      refine ⟨[.string x.t, .slice p1 x.c.length c1, .int .u64 (x.v.b : Int), .int .u64 (x.v.l : Int), .slice pf xs.length cf], rfl, ⟨_, _, rfl, HQ.out.1, HF.out.1, HQ.out.2, ?_⟩, HF.out.2.2⟩
      rw [HXS.out]
      exact HF.out.2.1
end Go.Proofs.YtgdjhkcllpkiiaaGreatDoor
/- Claims that are copied. -/
namespace Go.Proofs.YtgdjhkcllpkiiaaGreatDoor
open Go.Shelf Go.RowKit Go.Lib
set_option linter.unusedVariables false
set_option linter.unusedSimpArgs false
attribute [local go_sem ↓] Go.wp_at_zero Go.wp_at_succ
/-- A struct is put into a new box. -/
theorem box_new (W : World) (t : TypeId) (z : Array Value) (cl : List Value) (hl : z.size = cl.length) : ∃ WA, W.alloc (.cells z t) = WA ∧ WA.there W.heap.size 0 cl.toArray.size ∧ ∃ WS, WA.setCells W.heap.size 0 cl.toArray.toList = WS ∧ WS.rangeAt W.heap.size 0 cl ∧ WS.heap.size = W.heap.size + 1 ∧ Below W.heap.size W WS ∧ ∀ V, Below WS.heap.size WS V → V.rangeAt W.heap.size 0 cl := by
  refine ⟨_, rfl, ?_⟩
  have hg : (W.alloc (.cells z t)).heap[W.heap.size]? = some (.cells z t (0, 0)) := heap_alloc_new W _
  have hB : Below W.heap.size W (W.alloc (.cells z t)) := (Below.refl _ _).alloc (Nat.le_refl _) _
  have ht : (W.alloc (.cells z t)).there W.heap.size 0 cl.length := fun j hj => by
    rw [Nat.zero_add]
    refine ⟨?_, frozen_zero hg j⟩
    rw [cellR hg (Array.getElem?_eq_getElem (by omega : j < z.size))]
    rfl
  obtain ⟨a1, a2, a3, a4, a5⟩ := setCells_any W.heap.size cl 0 (W.alloc (.cells z t))
  have hs : ((W.alloc (.cells z t)).setCells W.heap.size 0 cl).heap.size = W.heap.size + 1 := by rw [a1]; simp
  have hr := World.rangeAt_setCells_same (W.alloc (.cells z t)) W.heap.size 0 cl ht
  refine ⟨by simpa using ht, _, rfl, by simpa using hr, by simpa using hs, ?_, fun V hV => ?_⟩
  · rw [show cl.toArray.toList = cl by simp]
    exact ⟨a2.trans hB.os, a3.trans hB.tape, a4.trans hB.output, by omega, fun j hj => by rw [a5 j (by omega)]; exact hB.block j hj⟩
  · rw [show cl.toArray.toList = cl by simp] at hV
    intro j v hv
    rw [hV.cell (p := ⟨W.heap.size, _, none⟩) (by show W.heap.size < _; omega)]
    exact hr j v hv
theorem range_of {W : World} {b o : Nat} {cs : List Value} (h : ∀ i u, cs[i]? = some u → W.cell? ⟨b, o + i, none⟩ = some u) : W.rangeAt b o cs := h
theorem inf67 : ∃ i0, Tryz.prog.info? 67 = some i0 ∧ i0.zero = some (.agg #[.string ⟨#[]⟩, .slice none 0 0, .int .u64 0, .int .u64 0, .slice none 0 0]) ∧ i0.size = 5 ∧ i0.bytes = 80 := by
  have h1 : (Tryz.prog.info? 67).bind (·.zero) = some (.agg #[.string ⟨#[]⟩, .slice none 0 0, .int .u64 0, .int .u64 0, .slice none 0 0]) := by kernel_rfl
  have h2 : (Tryz.prog.info? 67).map (·.size) = some 5 := by kernel_rfl
  have h3 : (Tryz.prog.info? 67).map (·.bytes) = some 80 := by kernel_rfl
  generalize Tryz.prog.info? 67 = i at *
  cases i with
  | none => cases h1
  | some i => exact ⟨i, rfl, h1, Option.some.inj h2, Option.some.inj h3⟩
set_option maxRecDepth 100000 in
set_option maxHeartbeats 4000000 in
theorem copyClaims_any (v : Value) (xs : List Clm) (K : Nat → Prop) (w : World) (h : ListIs rClm 5 80 K w v xs) (hK : ∀ b, K b → b < w.heap.size) :
    Calls Tryz.prog 21 #[v] w fun e w' => CpP rClm 5 80 xs w e w' := by
  obtain ⟨p, c, rfl, hby, hp⟩ := h
  have HP : Hid (0 < xs.length → ∃ b o, p = some ⟨b, o, none⟩ ∧ K b ∧ ∀ (j : Nat) (h : j < xs.length), ∃ cs, cs.length = 5 ∧ (∀ (i : Nat) (u : Value), cs[i]? = some u → w.cell? ⟨b, o + j * 5 + i, none⟩ = some u) ∧ rClm K w cs xs[j]) := hp
  have HKK : Hid (∀ b, K b → b < w.heap.size) := hK
  have HBY : Hid (xs.length * 80 ≤ 140737488355328) := hby
  have HJ : Hid (OwnR rClm 5 67 w.heap.size w (.slice none 0 0) (xs.take 0)) := OwnR.nil
  obtain ⟨j0, hj0, hj1, hj2, hj3⟩ := inf67
  have hx63 : xs.length ≤ 140737488355328 := by omega
  clear hp hK hby
  go_enter Tryz.func21, Tryz.ntmps21
  go_wp2_with fail
  go_loopg [3, 8] xs.length (fun gf s3 s8 wx => ∃ (u : Value) (i : Nat), u = s3 ∧ s8 = .int .i64 i ∧ i ≤ xs.length ∧ xs.length ≤ i + gf ∧ Hid (OwnR rClm 5 67 w.heap.size wx u (xs.take i)) ∧ Hid (Below w.heap.size w wx))
  case atStart => exact ⟨_, 0, rfl, rfl, by omega, by omega, HJ, Below.refl _ _⟩
  case round =>
    clear HJ
    obtain ⟨u, i, rfl, rfl, hi1, hgf, HJ, HB⟩ := hrel
    by_cases hi : i < xs.length
    · obtain ⟨g', rfl⟩ : ∃ g', gk = g' + 1 := ⟨gk - 1, by omega⟩
      obtain ⟨b, o, rfl, hKb, hc⟩ := HP.out (by omega)
      obtain ⟨cs, hcl, hcell, hrel1⟩ := hc i hi
      have htk : xs.take (i + 1) = xs.take i ++ [xs[i]] := List.take_succ_eq_append_getElem hi
      obtain ⟨y, hy⟩ : ∃ y, xs[i] = y := ⟨_, rfl⟩
      rw [hy] at hrel1 htk
      have hbw := HB.out
      have hrw : rClm K wr cs y := mClm _ _ _ _ _ _ (fun _ h => h) (kept_of HKK.out hbw) hrel1
      obtain ⟨v1, v2, rfl, q1, n1, q2, n2⟩ := id hrw
      have hra : wr.rangeAt b (o + i * 5) [.string y.t, v1, .int .u64 (y.v.b : Int), .int .u64 (y.v.l : Int), v2] := fun j u hu => by
        rw [hbw.cell (p := ⟨b, _, none⟩) (HKK.out _ hKb)]
        exact hcell j u hu
      obtain ⟨z1, y1, rfl, _, _⟩ := n1
      obtain ⟨z2, y2, rfl, _, _⟩ := n2
      obtain ⟨WA, hWA, hth, WS, hWS, hrs, hss, hbs, hrl⟩ := box_new wr 67 #[.string ⟨#[]⟩, .slice none 0 0, .int .u64 0, .int .u64 0, .slice none 0 0] [.string y.t, .slice z1 y.c.length y1, .int .u64 (y.v.b : Int), .int .u64 (y.v.l : Int), .slice z2 y.o.length y2] rfl
      have hKW : ∀ b, K b → b < WS.heap.size := fun b hb => by have := HKK.out b hb; have := hbw.size; omega
      have CC := copyClaim_any _ y K WS (mClm _ _ _ _ _ _ (fun _ h => h) (kept_of (fun b hb => Nat.lt_of_lt_of_le (HKK.out b hb) hbw.size) hbs) hrw) hKW
      have HCC : Hid (Calls Tryz.prog 34 #[.agg #[.string y.t, .slice z1 y.c.length y1, .int .u64 (y.v.b : Int), .int .u64 (y.v.l : Int), .slice z2 y.o.length y2]] WS fun e w' => ∃ cs', e = .returned (.agg cs'.toArray) ∧ rClm (From WS.heap.size w') w' cs' y ∧ Below WS.heap.size WS w') := CC
      have HRA : Hid (wr.rangeAt b (o + i * 5) [.string y.t, .slice z1 y.c.length y1, .int .u64 (y.v.b : Int), .int .u64 (y.v.l : Int), .slice z2 y.o.length y2]) := hra
      have HTH : Hid (WA.there wr.heap.size 0 5) := hth
      have HWS : Hid (WA.setCells wr.heap.size 0 (#[.string y.t, .slice z1 y.c.length y1, .int .u64 (y.v.b : Int), .int .u64 (y.v.l : Int), .slice z2 y.o.length y2] : Array Value).toList = WS) := hWS
      have HRS : Hid (WS.rangeAt wr.heap.size 0 [.string y.t, .slice z1 y.c.length y1, .int .u64 (y.v.b : Int), .int .u64 (y.v.l : Int), .slice z2 y.o.length y2]) := hrs
      have HON : Hid ((#[.string y.t, .slice z1 y.c.length y1, .int .u64 (y.v.b : Int), .int .u64 (y.v.l : Int), .slice z2 y.o.length y2] : Array Value).all (·.oneCell') = true) := by show _ = _; simp [Value.oneCell']
      have HBS : Hid (Below wr.heap.size wr WS) := hbs
      have HTK : Hid (xs.take (i + 1) = xs.take i ++ [y]) := htk
      have HSS : Hid (WS.heap.size = wr.heap.size + 1) := hss
      have z0 : (0 : Int) ≤ (i : Int) := by omega
      have z1' : (i : Int) < (xs.length : Int) := by omega
      clear CC hra hth hWS hrs hrl hbs htk hc hcell hy hKb hcl hbw hrel1 hrw q1 q2 hKW hss
      go_wp2_with (first | (refine wpList_load_mid rfl 67 _ rfl b (o + i * 5) rfl _ _ HRA.out Tryz.underlying67 rfl size67 ?_) | (refine wpList_store_mid rfl 67 _ _ rfl wr.heap.size 0 #[.string y.t, .slice z1 y.c.length y1, .int .u64 (y.v.b : Int), .int .u64 (y.v.l : Int), .slice z2 y.o.length y2] rfl rfl HTH.out size67 HON.out ?_; rw [HWS.out]) | (refine wpList_load_mid rfl 67 _ rfl wr.heap.size 0 rfl _ _ HRS.out Tryz.underlying67 rfl size67 ?_))
      refine HCC.out.mono ?_
      rintro e w3 ⟨cs3, rfl, hr3, hb3⟩
      obtain ⟨u1, u2, rfl, q1, n1, q2, n2⟩ := id hr3
      obtain ⟨p1, c1, rfl, _, _⟩ := n1
      obtain ⟨p2, c2, rfl, _, _⟩ := n2
      have hB3 : Below wr.heap.size wr w3 := HBS.out.trans (hb3.mono HBS.out.size)
      have hJX := HJ.out.keep mClm hB3
      have hlen : (xs.take i).length = i := by simp; omega
      have hmx : i + 1 ≤ maxLen := by have := HBY.out; unfold maxLen; omega
      have hb80 : (i + 1) * 80 ≤ 140737488355328 := by have := HBY.out; omega
      obtain ⟨v', X2, e2, hJ2, hb2, hs2⟩ := OwnR.push mClm Tryz.underlying47 hj0 hj1 hj2 hj3 rfl (by omega) hJX (Nat.le_trans HB.out.size hB3.size) (cs := [.string y.t, .slice p1 y.c.length c1, .int .u64 (y.v.b : Int), .int .u64 (y.v.l : Int), .slice p2 y.o.length c2]) (x := y) (K2 := From WS.heap.size w3) rfl (fun c hc => by simp at hc; rcases hc with rfl | rfl | rfl | rfl | rfl <;> rfl)
        (fun b hb => ⟨by have := hb.1; have := HB.out.size; have := HBS.out.size; omega, hb.2, fun e => by obtain ⟨_, _, _, ho, _⟩ := HJ.out; have := (ho.lt _ e).2; have := hb.1; have := HBS.out.size; omega⟩) hr3 (by rw [hlen]; exact hb80) (by rw [hlen]; exact hmx)
      have HJ2 : Hid (OwnR rClm 5 67 w.heap.size X2 v' (xs.take (i + 1))) := by rw [HTK.out]; exact hJ2
      have HB2 : Hid (Below w.heap.size w X2) := hb2 _ _ (HB.out.trans (hB3.mono HB.out.size)) (Nat.le_refl _)
      clear hJ2 hb2 hs2 hJX hlen hmx hb80 hB3 hr3 hb3 q1 q2 HJ HB
      go_wp2_with (at_builtin; refine Lib.wpList_append_run _ rfl _ _ _ _ rfl u (.slice (some ⟨w3.heap.size, 0, none⟩) 1 1) rfl rfl _ _ e2 ?_)
      go_roundg g'
      case measure => omega
      case rel => exact ⟨_, i + 1, rfl, by go_num, by omega, by omega, HJ2, HB2⟩
    · have z1 : ¬ (i : Int) < (xs.length : Int) := by omega
      have hJ := HJ.out
      rw [List.take_of_length_le (by omega)] at hJ
      obtain ⟨pf, cf, huf, hlf⟩ := hJ.list mClm HBY.out
      subst huf
      have HF : Hid (ListIs rClm 5 80 (From w.heap.size wr) wr (.slice pf xs.length cf) xs ∧ Below w.heap.size w wr) := ⟨hlf, HB.out⟩
      clear HJ hJ hlf HB
      go_wp2_with fail
      go_ret
      exact ⟨_, _, rfl, HF.out⟩
end Go.Proofs.YtgdjhkcllpkiiaaGreatDoor
/- A table that is copied. -/
namespace Go.Proofs.YtgdjhkcllpkiiaaGreatDoor
open Go.Shelf Go.RowKit Go.Lib
set_option linter.unusedVariables false
set_option linter.unusedSimpArgs false
attribute [local go_sem ↓] Go.wp_at_zero Go.wp_at_succ
theorem step_append {ops : Array Oper} {o : Oper} {a : Act} {K : Act → World → Prop} {Q : Exit → Act → World → Prop} {E : Prop} (t : TypeId) (W : World) (hgd : o.guard = none) (s x : Operand)
    (ho : o.op = .call { callee := .builtin .append, args := #[s, x], argTypes := #[t, t] }) (vs vx v' : Value) (W' : World) (hs : a.eval s = vs) (hx : a.eval x = vx)
    (hrun : (Builtin.append_ #[t, t] o.type #[vs, vx]).run Tryz.prog W = .ok v' W') (h : K (a.put o.dst v') W') :
    if Region.wanted o (yielded ops a.tmps) = true then Oper.wp Tryz.prog o a W K Q else E := by
  have hw : Region.wanted o (yielded ops a.tmps) = true := by simp [Region.wanted, hgd]
  rw [if_pos hw]
  unfold Oper.wp execOp
  simp only [ho, resolve, invoke, builtin, Sem.run_bind, Sem.run_pure, Result.andThen_ok, List.map_toArray, List.map_cons, List.map_nil, hs, hx, hrun]
  exact h
/-- Three cells of the answer's box are stored. -/
theorem Two.three {t : TypeId} {cl : List Value} {w W : World} (h : Two t cl w W) (hl : cl.length = 3) (a b c : Value) :
    ∃ Wa Wb Wc, W.setCell ⟨w.heap.size + 1, 0, none⟩ a = Wa ∧ Wa.setCell ⟨w.heap.size + 1, 1, none⟩ b = Wb ∧ Wb.setCell ⟨w.heap.size + 1, 2, none⟩ c = Wc ∧
      (∃ o, W.cell? ⟨w.heap.size + 1, 0, none⟩ = some o) ∧ W.frozen? ⟨w.heap.size + 1, 0, none⟩ = false ∧ (∃ o, Wa.cell? ⟨w.heap.size + 1, 1, none⟩ = some o) ∧ Wa.frozen? ⟨w.heap.size + 1, 1, none⟩ = false ∧
      (∃ o, Wb.cell? ⟨w.heap.size + 1, 2, none⟩ = some o) ∧ Wb.frozen? ⟨w.heap.size + 1, 2, none⟩ = false ∧ Hid (Below w.heap.size w Wc) ∧ Hid (Kept (fun b => w.heap.size + 2 ≤ b) W Wc) ∧ Hid (Wc.heap[w.heap.size]? = some (.cells cl.toArray t (0, 0))) ∧
      Wc.cell? ⟨w.heap.size + 1, 0, none⟩ = some a ∧ Wc.cell? ⟨w.heap.size + 1, 1, none⟩ = some b ∧ Wc.cell? ⟨w.heap.size + 1, 2, none⟩ = some c := by
  obtain ⟨h1, ⟨z, hz, h2⟩, h3⟩ := h
  obtain ⟨a1, a2, a3, a4, a5⟩ := setCell_any W (w.heap.size + 1) 0 a
  have g1 := heap_setCell_same W (w.heap.size + 1) 0 z t a h2
  obtain ⟨b1, b2, b3, b4, b5⟩ := setCell_any (W.setCell ⟨w.heap.size + 1, 0, none⟩ a) (w.heap.size + 1) 1 b
  have g2 := heap_setCell_same (W.setCell ⟨w.heap.size + 1, 0, none⟩ a) (w.heap.size + 1) 1 _ t b g1
  obtain ⟨c1, c2, c3, c4, c5⟩ := setCell_any ((W.setCell ⟨w.heap.size + 1, 0, none⟩ a).setCell ⟨w.heap.size + 1, 1, none⟩ b) (w.heap.size + 1) 2 c
  have g3 := heap_setCell_same ((W.setCell ⟨w.heap.size + 1, 0, none⟩ a).setCell ⟨w.heap.size + 1, 1, none⟩ b) (w.heap.size + 1) 2 _ t c g2
  have e : ∀ j, j ≠ w.heap.size + 1 → (((W.setCell ⟨w.heap.size + 1, 0, none⟩ a).setCell ⟨w.heap.size + 1, 1, none⟩ b).setCell ⟨w.heap.size + 1, 2, none⟩ c).heap[j]? = W.heap[j]? := fun j hj => ((c5 j hj).trans (b5 j hj)).trans (a5 j hj)
  refine ⟨_, _, _, rfl, rfl, rfl, ⟨z[0], cell_of_row h2 (Array.getElem?_eq_getElem (by omega))⟩, frozen_zero h2 _, ⟨z[1], cell_of_row g1 (by rw [Array.getElem?_setIfInBounds_ne (by omega)]; exact Array.getElem?_eq_getElem (by omega))⟩, frozen_zero g1 _, ⟨z[2], cell_of_row g2 (by rw [Array.getElem?_setIfInBounds_ne (by omega), Array.getElem?_setIfInBounds_ne (by omega)]; exact Array.getElem?_eq_getElem (by omega))⟩, frozen_zero g2 _, ?_, ?_, ?_, cell_of_row g3 ?_, cell_of_row g3 ?_, cell_of_row g3 ?_⟩
  · exact ⟨((c2.trans b2).trans a2).trans h3.os, ((c3.trans b3).trans a3).trans h3.tape, ((c4.trans b4).trans a4).trans h3.output, by have := h3.size; omega, fun j hj => by rw [e j (by omega)]; exact h3.block j hj⟩
  · exact ⟨(c2.trans b2).trans a2, (c3.trans b3).trans a3, (c4.trans b4).trans a4, by omega, fun j hj => e j (by omega)⟩
  · show _ = _
    rw [e _ (by omega)]; exact h1
  · rw [Array.getElem?_setIfInBounds_ne (by omega), Array.getElem?_setIfInBounds_ne (by omega), Array.getElem?_setIfInBounds_self_of_lt (by omega)]
  · rw [Array.getElem?_setIfInBounds_ne (by omega), Array.getElem?_setIfInBounds_self_of_lt (by simp; omega)]
  · rw [Array.getElem?_setIfInBounds_self_of_lt (by simp; omega)]
set_option maxRecDepth 100000 in
set_option maxHeartbeats 4000000 in
theorem copyTable_any (cs : List Value) (x : Tbl) (K : Nat → Prop) (w : World) (h : rTbl K w cs x) (hK : ∀ b, K b → b < w.heap.size) :
    Calls Tryz.prog 17 #[.agg cs.toArray] w fun e w' => ∃ cs', e = .returned (.agg cs'.toArray) ∧ rTbl (From w.heap.size w') w' cs' x ∧ Below w.heap.size w w' := by
  obtain ⟨v1, v2, rfl, q1, h1, h2⟩ := h
  have HQ : Hid (small x.n) := q1
  obtain ⟨k0, hk0, hk1, hk2, hk3⟩ := inf142
  obtain ⟨W0, hW0, t0, hs0⟩ := Two.start w 71 #[.string x.n, v1, v2] #[.string ⟨#[]⟩, .slice none 0 0, .slice none 0 0] rfl
  obtain ⟨Y, hY⟩ : ∃ Y, W0.drew.alloc (.cells #[] 142) = Y := ⟨_, rfl⟩
  have hYb : (W0.alloc (.cells #[] 142)).drew = Y := hY
  have hbY : Below W0.heap.size W0 Y := by rw [← hYb]; exact ((Below.refl _ _).alloc (Nat.le_refl _) _).drew
  have hgY : Y.heap[W0.heap.size]? = some (.cells #[] 142 (0, 0)) := by rw [← hYb]; exact heap_alloc_new W0 _
  have tY := t0.call hbY
  have hlt := t0.lt
  obtain ⟨X, p1, c1, hC⟩ := cpy_list fCl Tryz.underlying44 hk0 hk1 hk2 hk3 rfl (by omega) (by omega) hgY (ListIs.later mCl h1 hK tY.2.2)
  have hbX : Below W0.heap.size W0 X := hC.below _ _ hbY (Nat.le_refl _)
  have tX := t0.call hbX
  have l1 := hC.list.less mCl (C := w.heap.size + 2) hlt
  have CR := copyRows_any v2 x.r K X (ListIs.later mRow h2 hK tX.2.2) (fun b hb => Nat.lt_of_lt_of_le (hK b hb) tX.2.2.size)
  have HCR : Hid (Calls Tryz.prog 19 #[v2] X fun e w' => CpP rRow 1 24 x.r X e w') := CR
  have HC3 : Hid (∀ W, Two 71 [.string x.n, v1, v2] w W → W.cell? ⟨w.heap.size, 0, none⟩ = some (.string x.n) ∧ W.cell? ⟨w.heap.size, 1, none⟩ = some v1 ∧ W.cell? ⟨w.heap.size, 2, none⟩ = some v2) := fun W ht => ⟨ht.cell rfl, ht.cell rfl, ht.cell rfl⟩
  have KY := hid (HC3.out _ tY)
  have KX := hid (HC3.out _ tX)
  have K0 := hid (HC3.out _ t0)
  have HT : Hid (Two 71 [.string x.n, v1, v2] w X) := tX
  have HL : Hid (ListIs rCl 2 24 (From (w.heap.size + 2) X) X (.slice p1 x.c.length c1) x.c) := l1
  have HRUN := hid hC.run
  obtain ⟨pr, cr, rfl, nn1, nn2⟩ := id h2
  obtain ⟨pc, cc, rfl, nn3, nn4⟩ := id h1
  clear nn1 nn2 nn3 nn4 CR l1 tX hbX hC tY hgY hbY t0 h1 h2 hK q1 hs0 hlt
  go_enter Tryz.func17, Tryz.ntmps17
  go_wp2_with fail
  have b0 := K0.out
  go_region_held3 (fun w' => w'.cell? ⟨w.heap.size, 0, none⟩ = some (.string x.n) ∧ w'.cell? ⟨w.heap.size, 1, none⟩ = some (.slice pc x.c.length cc) ∧ w'.cell? ⟨w.heap.size, 2, none⟩ = some (.slice pr x.r.length cr))
    (first | exact KY.out | exact KX.out | exact K0.out | exact K3.out | exact K4.out | go_keep)
    ((first
      | (refine step_append 44 _ rfl _ _ rfl (.slice (some ⟨W0.heap.size, 0, none⟩) 0 0) (.slice pc x.c.length cc) (.slice p1 x.c.length c1) X rfl rfl (by with_reducible exact HRUN.out) ?_)
      | (go_at_call 19; refine HCR.out.mono ?_; rintro e w3 ⟨p2, c2, rfl, hl2, hb3⟩; have t3 := HT.out.call hb3; have K3 := hid (HC3.out _ t3); have HL3 : Hid (ListIs rCl 2 24 (From (w.heap.size + 2) w3) w3 (.slice p1 x.c.length c1) x.c) := HL.out.grow mCl hb3; have HM3 : Hid (ListIs rRow 1 24 (From (w.heap.size + 2) w3) w3 (.slice p2 x.r.length c2) x.r) := hl2.less mRow HT.out.lt; obtain ⟨Wa, Wb, Wc, e1, e2, e3, ⟨o1, f1⟩, f2, ⟨o3, f3⟩, f4, ⟨o5, f5⟩, f6, HBc, HKc, HGc, r1, r2, r3⟩ := t3.three rfl (.string x.n) (.slice p1 x.c.length c1) (.slice p2 x.r.length c2); have K4 : Hid (Wc.cell? ⟨w.heap.size, 0, none⟩ = some (.string x.n) ∧ Wc.cell? ⟨w.heap.size, 1, none⟩ = some (.slice pc x.c.length cc) ∧ Wc.cell? ⟨w.heap.size, 2, none⟩ = some (.slice pr x.r.length cr)) := ⟨cell_of_row HGc.out rfl, cell_of_row HGc.out rfl, cell_of_row HGc.out rfl⟩; clear hl2 hb3 t3)))
  all_goals go_wp2_with fail
  all_goals exact bodyPost_ret (v := .agg #[.string x.n, .slice p1 x.c.length c1, .slice p2 x.r.length c2]) (by simp [results, Tryz.results17, go_sem, r1, r2, r3]) rfl ⟨[.string x.n, .slice p1 x.c.length c1, .slice p2 x.r.length c2], rfl, ⟨_, _, rfl, HQ.out, (HL3.out.kept mCl HKc.out).less mCl (by omega), (HM3.out.kept mRow HKc.out).less mRow (by omega)⟩, HBc.out⟩
end Go.Proofs.YtgdjhkcllpkiiaaGreatDoor
