/- A file that is put in ahead of others: what Insert answers. -/
import Derived.Test.YtedjfbkpebmggaaDg
namespace Go.Proofs.Ytedjfbkpebmggaa
open Go.Shelf Go.RowKit Go.Lib Go.Sort
set_option linter.unusedVariables false
set_option linter.unusedSimpArgs false
attribute [local go_sem ↓] Go.wp_at_zero Go.wp_at_succ
theorem take_len {α : Type} {A B : List α} {n : Nat} (h : A.length = n) : (A ++ B).take n = A := by rw [← h]; exact List.take_left
theorem drop_len {α : Type} {A B : List α} {n : Nat} (h : A.length = n) : (A ++ B).drop n = B := by rw [← h]; exact List.drop_left
theorem splice {α : Type} (C L F : List α) (a m : Nat) (hL : C.take m = L) (ha : a ≤ m) (hF : F.length = 3) (hm : m + 3 ≤ C.length) (C1 C2 : List α)
    (h1 : C1 = C.take (a + 3) ++ L.drop a ++ C.drop (a + 3 + (L.drop a).length)) (h2 : C2 = C1.take a ++ F ++ C1.drop (a + F.length)) :
    C1.length = C.length ∧ C2.length = C.length ∧ C2.take (m + 3) = L.take a ++ (F ++ L.drop a) := by
  have hLl : L.length = m := by rw [← hL, List.length_take]; omega
  have hd : (L.drop a).length = m - a := by rw [List.length_drop, hLl]
  have e1 : C1.take a = L.take a := by
    rw [h1, List.append_assoc, List.take_append_of_le_length (by rw [List.length_take]; omega), List.take_take, ← hL, List.take_take]
    congr 1; omega
  have e2 : C1.drop (a + F.length) = L.drop a ++ C.drop (a + 3 + (L.drop a).length) := by
    rw [h1, hF, List.append_assoc]
    exact drop_len (by rw [List.length_take]; omega)
  rw [e1, e2] at h2
  refine ⟨?_, ?_, ?_⟩
  · rw [h1]; simp only [List.length_append, List.length_take, List.length_drop]; omega
  · rw [h2]; simp only [List.length_append, List.length_take, List.length_drop]; omega
  · rw [h2, show L.take a ++ F ++ (L.drop a ++ C.drop (a + 3 + (L.drop a).length)) = (L.take a ++ (F ++ L.drop a)) ++ C.drop (a + 3 + (L.drop a).length) by simp]
    exact take_len (by simp only [List.length_append, List.length_take, List.length_drop]; omega)
theorem splice2 {α : Type} (C L F : List α) (a m : Nat) (hL : C.take a = L.take a) (hLl : L.length = m) (ha : a ≤ m) (hF : F.length = 3) (hm : m + 3 ≤ C.length) (C1 C2 : List α)
    (h1 : C1 = C.take a ++ F ++ C.drop (a + F.length)) (h2 : C2 = C1.take (a + 3) ++ L.drop a ++ C1.drop (a + 3 + (L.drop a).length)) :
    C1.length = C.length ∧ C2.length = C.length ∧ C2.take (m + 3) = L.take a ++ (F ++ L.drop a) := by
  have hd : (L.drop a).length = m - a := by rw [List.length_drop, hLl]
  have hl1 : C1.length = C.length := by rw [h1]; simp only [List.length_append, List.length_take, List.length_drop]; omega
  have e1 : C1.take (a + 3) = C.take a ++ F := by
    rw [h1]; exact take_len (by simp only [List.length_append, List.length_take]; omega)
  rw [e1, hL] at h2
  refine ⟨hl1, ?_, ?_⟩
  · rw [h2]; simp only [List.length_append, List.length_take, List.length_drop]; omega
  · rw [h2, show L.take a ++ F ++ L.drop a ++ C1.drop (a + 3 + (L.drop a).length) = (L.take a ++ (F ++ L.drop a)) ++ C1.drop (a + 3 + (L.drop a).length) by simp]
    exact take_len (by simp only [List.length_append, List.length_take, List.length_drop]; omega)
theorem heap_drew (w : World) (g : Nat) : w.drew.heap[g]? = w.heap[g]? := rfl
theorem flat_three (f : DF) : (flat [f]).length = 3 := flat_length [f]
theorem one_cells {w : World} {vb : Nat} {f : DF} (hv : w.heap[vb]? = some (.cells #[.string f.n, .string f.d, .int .i64 f.y] 41 (0, 0))) : ∀ j u, (flat [f])[j]? = some u → w.cell? ((⟨vb, 0, none⟩ : Addr).add j) = some u := by
  refine flat_add (fun j hj => ?_)
  match j, hj with
  | 0, _ => exact ⟨cell_of_row hv rfl, cell_of_row hv rfl, cell_of_row hv rfl⟩
set_option maxRecDepth 100000 in
set_option maxHeartbeats 2000000 in
/-- There is room. -/
theorem insRoom_any (g cap : Nat) (cur : Array Value) (l : List DF) (k : Nat) (f : DF) (vb : Nat) (w0 w : World) (hbg : w0.heap.size ≤ g) (hg : w.heap[g]? = some (.cells cur 41 (0, 0))) (hcs : cur.size = cap * 3) (hcm : cap ≤ maxLen) (htake : cur.toList.take (l.length * 3) = flat l)
    (hk : k < l.length) (hroom : l.length + 1 ≤ cap) (hbw : Below w0.heap.size w0 w) (hvb : vb ≠ g)
    (hv : w.heap[vb]? = some (.cells #[.string f.n, .string f.d, .int .i64 f.y] 41 (0, 0))) :
    Calls Try.prog 50 #[.slice (some ⟨g, 0, none⟩) l.length cap, .int .i64 k, .slice (some ⟨vb, 0, none⟩) 1 1] w fun e w' => ∃ u, e = .returned u ∧ OwnF w0.heap.size w' u (insK k f l) ∧ Below w0.heap.size w0 w' := by
  have hfl := flat_length l
  have hcl : cur.toList.length = cap * 3 := by rw [Array.length_toList]; exact hcs
  obtain ⟨C1, hC1⟩ : ∃ C1, C1 = cur.toList.take (k * 3 + 3) ++ (flat l).drop (k * 3) ++ cur.toList.drop (k * 3 + 3 + ((flat l).drop (k * 3)).length) := ⟨_, rfl⟩
  obtain ⟨C2, hC2⟩ : ∃ C2, C2 = C1.take (k * 3) ++ flat [f] ++ C1.drop (k * 3 + (flat [f]).length) := ⟨_, rfl⟩
  obtain ⟨l1, l2, l3⟩ := splice cur.toList (flat l) (flat [f]) (k * 3) (l.length * 3) htake (by omega) (flat_three f) (by rw [hcl]; omega) C1 C2 hC1 hC2
  have hsrc : ∀ j u, ((flat l).drop (k * 3))[j]? = some u → w.drew.cell? ((⟨g, k * 3, none⟩ : Addr).add j) = some u := fun j u hu => by
    rw [Go.WideShapes.add_plain]
    refine cell_of_row (W := w.drew) hg ?_
    rw [List.getElem?_drop, ← htake] at hu
    have := List.getElem?_take (l := cur.toList) (i := l.length * 3) (j := k * 3 + j)
    rw [hu] at this
    split at this
    · simpa using this.symm
    · cases this
  have hcp1 : ∀ ty dc sc n1 n2, min n1 n2 = l.length - k → (Builtin.copy_ #[22, 22] ty #[.slice (some ⟨g, (k + 1) * 3, none⟩) n1 dc, .slice (some ⟨g, k * 3, none⟩) n2 sc]).run Try.prog w.drew = .ok (goInt (l.length - k : Nat)) (w.drew.setRow g C1.toArray) := fun ty dc sc n1 n2 hn => by
    rw [Nat.add_mul k 1 3]
    have := run_copy3 w.drew ty g (k * 3 + 3) n1 dc ⟨g, k * 3, none⟩ n2 sc (l.length - k) ((flat l).drop (k * 3)) cur hg hn (by rw [List.length_drop, hfl]; omega) (by rw [hcs]; omega) hsrc (fun u hu => flat_one l u (List.mem_of_mem_drop hu))
    rw [this, hC1]
  obtain ⟨W1, hW1⟩ : ∃ W1, W1 = w.drew.setRow g C1.toArray := ⟨_, rfl⟩
  have hg1 : W1.heap[g]? = some (.cells C1.toArray 41 (0, 0)) := by rw [hW1]; exact setRow_heap _ _ cur _ 41 (0, 0) hg
  have hv1 : W1.heap[vb]? = some (.cells #[.string f.n, .string f.d, .int .i64 f.y] 41 (0, 0)) := by rw [hW1, setRow_other _ _ _ _ hvb]; exact hv
  have hb1 : Below w0.heap.size w0 W1 := by rw [hW1]; exact below_setRow hbw.drew hbg
  have hcp2 : ∀ ty dc n1, min n1 1 = 1 → (Builtin.copy_ #[22, 22] ty #[.slice (some ⟨g, k * 3, none⟩) n1 dc, .slice (some ⟨vb, 0, none⟩) 1 1]).run Try.prog W1 = .ok (goInt (1 : Nat)) (W1.setRow g C2.toArray) := fun ty dc n1 hn => by
    have := run_copy3 W1 ty g (k * 3) n1 dc ⟨vb, 0, none⟩ 1 1 1 (flat [f]) C1.toArray hg1 hn (flat_length [f]) (by simp; rw [l1, hcl]; omega) (one_cells hv1) (flat_one _)
    rw [this, hC2]
  have HF : Hid (OwnF w0.heap.size (W1.setRow g C2.toArray) (.slice (some ⟨g, 0, none⟩) (l.length + 1) cap) (insK k f l) ∧ Below w0.heap.size w0 (W1.setRow g C2.toArray)) := by
    refine ⟨⟨flat_length _, .inr ⟨g, cap, C2.toArray, by rw [insK_length], hbg, setRow_heap _ _ C1.toArray _ 41 (0, 0) hg1, by rw [insK_length]; exact hroom, hcm, by simp; rw [l2, hcl], ?_⟩⟩, below_setRow hb1 hbg⟩
    rw [insK_length, flat_insK, ← l3, Nat.add_mul]
  have hov : ∀ lb cb, (callFunc 52 #[.slice (some ⟨vb, 0, none⟩) 1 1, .slice (some ⟨g, (k + 1) * 3, none⟩) lb cb]).run Try.prog w = .ok (.value (.bool false)) w := fun lb cb => by
    rw [run_callFunc_extern Try.func52 (by kernel_rfl) (by kernel_rfl) (by kernel_rfl) (e := Extern.SlicesOverlaps.overlaps #[22, 22] #[4]) (by kernel_rfl),
      Lib.run_overlaps_apart w 22 4 41 Try.underlying22 3 (fun w => Try.sizeOf41 w) ⟨vb, 0, none⟩ ⟨g, (k + 1) * 3, none⟩ 1 1 lb cb hvb 41 41 3 (cap * 3) (by simp [World.shape?, hv]) (by simp [World.shape?, hg, hcs]) (by omega) (frozen_zero hv 0) (frozen_zero hv 3)]
    rfl
  have z1 : ¬ ((k : Int) = (l.length : Int)) := by omega
  have z2 : ¬ (cap = k) := by omega
  have z3 : ¬ (cap = k + 1) := by omega
  have zc : cap ≤ 9223372036854775807 := by unfold maxLen at hcm; omega
  have hw1 : IntKind.i64.wrap ((k : Int) + 1) = (k : Int) + 1 := by rw [IntKind.wrap_i64]; omega
  have hb1 : (0 : Int) ≤ (k : Int) + 1 := by omega
  have htn : ((k : Int) + 1).toNat = k + 1 := by omega
  have hb2 : k ≤ l.length := by omega
  have hb3 : (k : Int) ≤ (l.length : Int) + 1 := by omega
  rw [← hW1] at hcp1
  clear hsrc hg1 hv1 hb1 hg hv hbw htake hcs hcm hC1 hC2 l1 l2 l3 hfl hcl hW1
  go_enter Try.func50, Try.ntmps50
  go_wp2_with (simp only [hov])
  have hb1 : (0 : Int) ≤ (k : Int) + 1 := by omega
  go_region_law (refine step_copy_runI rfl _ _ 22 22 rfl (.slice (some ⟨g, (k + 1) * 3, none⟩) (l.length - k) (cap - (k + 1))) (.slice (some ⟨g, k * 3, none⟩) (l.length + 1 - k) (cap - k)) (by simp [Act.eval, Act.put]) (by simp [Act.eval, Act.put]) (hcp1 3 (cap - (k + 1)) (cap - k) (l.length - k) (l.length + 1 - k) (by omega)) ?_)
  have q2 := hcp2 3 (cap - k) (l.length + 1 - k) (by omega)
  clear hcp1 hcp2 hov
  go_wp2_with fail
  go_ret
  exact ⟨_, rfl, HF.out⟩
set_option maxRecDepth 100000 in
set_option maxHeartbeats 2000000 in
/-- There is no room. -/
theorem insGrow_any (g cap : Nat) (cur : Array Value) (l : List DF) (k : Nat) (f : DF) (vb : Nat) (w0 w : World) (hg : w.heap[g]? = some (.cells cur 41 (0, 0))) (hcs : cur.size = cap * 3) (hcm : cap ≤ maxLen) (htake : cur.toList.take (l.length * 3) = flat l)
    (hk : k < l.length) (hnc : l.length ≤ cap) (hroom : cap < l.length + 1) (hbw : Below w0.heap.size w0 w) (hm : (l.length + 1) * 40 ≤ 140737488355328)
    (hv : w.heap[vb]? = some (.cells #[.string f.n, .string f.d, .int .i64 f.y] 41 (0, 0))) :
    Calls Try.prog 50 #[.slice (some ⟨g, 0, none⟩) l.length cap, .int .i64 k, .slice (some ⟨vb, 0, none⟩) 1 1] w fun e w' => ∃ u, e = .returned u ∧ OwnF w0.heap.size w' u (insK k f l) ∧ Below w0.heap.size w0 w' := by
  obtain ⟨i0, hi0, hz0, hzs, hzb⟩ := info41
  have hfl := flat_length l
  have hcl : cur.toList.length = cap * 3 := by rw [Array.length_toList]; exact hcs
  have hgl : g < w.heap.size := (Array.getElem?_eq_some_iff.1 hg).1
  have hvl : vb < w.heap.size := (Array.getElem?_eq_some_iff.1 hv).1
  have hcell : ∀ j u, (flat l)[j]? = some u → cur[j]? = some u := fun j u hu => by
    rw [← htake] at hu
    have := List.getElem?_take (l := cur.toList) (i := l.length * 3) (j := j)
    rw [hu] at this
    split at this
    · simpa using this.symm
    · cases this
  have hold : (Builtin.firstCells i0.size k (.slice (some ⟨g, 0, none⟩) k cap)).run Try.prog w.drew = .ok ((flat l).take (k * 3)).toArray w.drew := by
    rw [hzs]
    exact run_firstCells_some w.drew 3 k ⟨g, 0, none⟩ k cap ((flat l).take (k * 3)) (by rw [List.length_take]; omega) (fun j v hj => by
      rw [Go.WideShapes.add_plain, Nat.zero_add]
      refine cell_of_row (W := w.drew) hg (hcell j v ?_)
      rw [List.getElem?_take] at hj
      split at hj
      · exact hj
      · cases hj)
  obtain ⟨G, hG⟩ : ∃ G, G = grownCap w (l.length + 1) cap 41 := ⟨_, rfl⟩
  obtain ⟨Z1, hZ1⟩ : ∃ Z1, Z1 = Builtin.zeroCells (Value.agg #[.string ⟨#[]⟩, .string ⟨#[]⟩, .int .i64 0]).cells (l.length + 1 - k) := ⟨_, rfl⟩
  obtain ⟨Z2, hZ2⟩ : ∃ Z2, Z2 = Builtin.zeroCells (Value.agg #[.string ⟨#[]⟩, .string ⟨#[]⟩, .int .i64 0]).cells (G - (l.length + 1)) := ⟨_, rfl⟩
  have hs1 : Z1.size = (l.length + 1 - k) * 3 := by rw [hZ1]; simp [Builtin.zeroCells, Value.cells]
  have hs2 : Z2.size = (G - (l.length + 1)) * 3 := by rw [hZ2]; simp [Builtin.zeroCells, Value.cells]
  obtain ⟨W1, hW1⟩ : ∃ W1, W1 = w.drew.alloc (.cells (((flat l).take (k * 3)).toArray ++ Z1 ++ Z2) 41) := ⟨_, rfl⟩
  have hik : k + (l.length + 1 - k) = l.length + 1 := by omega
  have hrz : ∀ ty, (Builtin.append_ #[22, 3] ty #[.slice (some ⟨g, 0, none⟩) k cap, .int .i64 ((l.length + 1 - k : Nat) : Int)]).run Try.prog w = .ok (.slice (some ⟨w.heap.size, 0, none⟩) (l.length + 1) G) W1 := fun ty => by
    have h := Lib.run_append_grow_zeros w 22 3 ty 41 i0 _ .i64 .i64 Try.underlying22 Try.underlying3 hi0 hz0 (some ⟨g, 0, none⟩) k cap ((flat l).take (k * 3)) hold (l.length + 1 - k) (by omega) (by omega) (by omega) (by omega) (by rw [hzb]; omega) (by rw [hzb, hik]; exact growslice_fits hroom hm)
    rw [hik, ← hG, ← hZ1, ← hZ2, ← hW1] at h
    exact h
  have hGn : l.length + 1 ≤ G := by rw [hG]; exact grownCap_ge w _ _ _
  have hGm : G ≤ maxLen := by rw [hG]; exact grownCap_le_maxLen w (l.length + 1) cap 41 (by unfold maxLen; omega)
  obtain ⟨C, hC⟩ : ∃ C : List Value, C = ((flat l).take (k * 3)) ++ (Z1.toList ++ Z2.toList) := ⟨_, rfl⟩
  have hCl : C.length = G * 3 := by rw [hC]; simp only [List.length_append, List.length_take, Array.length_toList]; omega
  have hg1 : W1.heap[w.heap.size]? = some (.cells C.toArray 41 (0, 0)) := by
    rw [hW1]
    have := heap_alloc_new w.drew (.cells (((flat l).take (k * 3)).toArray ++ Z1 ++ Z2) 41)
    rw [show w.drew.heap.size = w.heap.size from rfl] at this
    rw [this, hC]
    congr 2
    apply Array.ext'
    simp
  have hb1 : Below w.heap.size w W1 := by rw [hW1]; exact (Below.refl w.heap.size w).drew.alloc (Nat.le_refl _) _
  have hv1 : W1.heap[vb]? = some (.cells #[.string f.n, .string f.d, .int .i64 f.y] 41 (0, 0)) := by rw [hb1.block _ hvl]; exact hv
  have hgo1 : W1.heap[g]? = some (.cells cur 41 (0, 0)) := by rw [hb1.block _ hgl]; exact hg
  obtain ⟨C1, hC1⟩ : ∃ C1, C1 = C.take (k * 3) ++ flat [f] ++ C.drop (k * 3 + (flat [f]).length) := ⟨_, rfl⟩
  obtain ⟨C2, hC2⟩ : ∃ C2, C2 = C1.take (k * 3 + 3) ++ (flat l).drop (k * 3) ++ C1.drop (k * 3 + 3 + ((flat l).drop (k * 3)).length) := ⟨_, rfl⟩
  obtain ⟨l1, l2, l3⟩ := splice2 C (flat l) (flat [f]) (k * 3) (l.length * 3) (by rw [hC]; exact take_len (by rw [List.length_take]; omega)) hfl (by omega) (flat_three f) (by rw [hCl]; omega) C1 C2 hC1 hC2
  obtain ⟨W2, hW2⟩ : ∃ W2, W2 = W1.setRow w.heap.size C1.toArray := ⟨_, rfl⟩
  have hcp1 : (Builtin.copy_ #[22, 22] 3 #[.slice (some ⟨w.heap.size, k * 3, none⟩) (l.length + 1 - k) (G - k), .slice (some ⟨vb, 0, none⟩) 1 1]).run Try.prog W1 = .ok (goInt (1 : Nat)) W2 := by
    have := run_copy3 W1 3 w.heap.size (k * 3) (l.length + 1 - k) (G - k) ⟨vb, 0, none⟩ 1 1 1 (flat [f]) C.toArray hg1 (by omega) (flat_length [f]) (by simp; rw [hCl]; omega) (one_cells hv1) (flat_one _)
    rw [this, hW2, hC1]
  have hg2 : W2.heap[w.heap.size]? = some (.cells C1.toArray 41 (0, 0)) := by rw [hW2]; exact setRow_heap _ _ C.toArray _ 41 (0, 0) hg1
  have hgo2 : W2.heap[g]? = some (.cells cur 41 (0, 0)) := by rw [hW2, setRow_other _ _ _ _ (by omega)]; exact hgo1
  have hb2 : Below w.heap.size w W2 := by rw [hW2]; exact below_setRow hb1 (Nat.le_refl _)
  have hcp2 : (Builtin.copy_ #[22, 22] 3 #[.slice (some ⟨w.heap.size, (k + 1) * 3, none⟩) (l.length - k) (G - (k + 1)), .slice (some ⟨g, k * 3, none⟩) (l.length - k) (cap - k)]).run Try.prog W2.drew = .ok (goInt (l.length - k : Nat)) (W2.drew.setRow w.heap.size C2.toArray) := by
    rw [Nat.add_mul k 1 3]
    have := run_copy3 W2.drew 3 w.heap.size (k * 3 + 3) (l.length - k) (G - (k + 1)) ⟨g, k * 3, none⟩ (l.length - k) (cap - k) (l.length - k) ((flat l).drop (k * 3)) C1.toArray hg2 (by omega) (by rw [List.length_drop, hfl]; omega) (by simp; rw [l1, hCl]; omega)
      (fun j u hu => by
        rw [Go.WideShapes.add_plain]
        rw [List.getElem?_drop] at hu
        exact cell_of_row (W := W2.drew) hgo2 (hcell _ u hu)) (fun u hu => flat_one l u (List.mem_of_mem_drop hu))
    rw [this, hC2]
  have HF : Hid (OwnF w0.heap.size (W2.drew.setRow w.heap.size C2.toArray) (.slice (some ⟨w.heap.size, 0, none⟩) (l.length + 1) G) (insK k f l) ∧ Below w0.heap.size w0 (W2.drew.setRow w.heap.size C2.toArray)) := by
    refine ⟨⟨flat_length _, .inr ⟨w.heap.size, G, C2.toArray, by rw [insK_length], hbw.size, setRow_heap W2.drew _ C1.toArray _ 41 (0, 0) hg2, by rw [insK_length]; exact hGn, hGm, by simp; rw [l2, hCl], ?_⟩⟩, below_setRow (hbw.trans (hb2.drew.mono hbw.size)) hbw.size⟩
    rw [insK_length, flat_insK, ← l3, Nat.add_mul]
  have z1 : ¬ ((k : Int) = (l.length : Int)) := by omega
  have z2 : ¬ (cap = k) := by omega
  have z4 : ¬ (G = k) := by omega
  have z5 : ¬ (G = k + 1) := by omega
  have z6 : (cap : Int) < (l.length : Int) + 1 := by omega
  have zc : cap ≤ 9223372036854775807 := by unfold maxLen at hcm; omega
  have zg : G ≤ 9223372036854775807 := by unfold maxLen at hGm; omega
  have hw1 : IntKind.i64.wrap ((k : Int) + 1) = (k : Int) + 1 := by rw [IntKind.wrap_i64]; omega
  have hw2 : IntKind.i64.wrap ((l.length : Int) + 1 - (k : Int)) = ((l.length + 1 - k : Nat) : Int) := by rw [IntKind.wrap_i64]; omega
  have hw3 : (l.length : Int) + 1 - (k : Int) = ((l.length + 1 - k : Nat) : Int) := by omega
  have htn : ((k : Int) + 1).toNat = k + 1 := by omega
  have hb2' : k ≤ l.length := by omega
  have hb3 : (k : Int) ≤ (l.length : Int) + 1 := by omega
  clear hg1 hv1 hb1 hg hv hbw htake hcs hcm hC1 hC2 l1 l2 l3 hfl hcl hW1 hW2 hg2 hgo1 hgo2 hb2 hC hCl hold hcell hs1 hs2 hZ1 hZ2 hG hGm hik
  go_enter Try.func50, Try.ntmps50
  go_wp2_with (at_builtin; refine Lib.wpList_append_run _ rfl _ _ _ _ rfl _ _ rfl rfl _ _ (hrz _) ?_)
  have hb1 : (0 : Int) ≤ (k : Int) + 1 := by omega
  go_region_law (refine step_copy_runI rfl _ _ 22 22 rfl (.slice (some ⟨w.heap.size, (k + 1) * 3, none⟩) (l.length - k) (G - (k + 1))) (.slice (some ⟨g, k * 3, none⟩) (l.length - k) (cap - k)) (by simp [Act.eval, Act.put]) (by simp [Act.eval, Act.put]) hcp2 ?_)
  go_wp2_with fail
  go_ret
  exact ⟨_, rfl, HF.out⟩
end Go.Proofs.Ytedjfbkpebmggaa
