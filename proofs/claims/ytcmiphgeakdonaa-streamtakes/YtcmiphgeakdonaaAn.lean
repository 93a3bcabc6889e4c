/- A batch that is put in: what Insert answers. -/
import Derived.Test.YtcmiphgeakdonaaAm
import Derived.Shelf.Spec.SlicesInsert
import Derived.Lib.AppendZerosOnto
import Derived.Laws.NewBlocks
import Derived.Deep.RegionLaw
import Derived.Lib.Overlaps
namespace Go.Proofs.Ytcmiphgeakdonaa
open Go.Shelf Go.RowKit Go.Lib Go.Sort
set_option linter.unusedVariables false
set_option linter.unusedSimpArgs false
attribute [local go_sem ↓] Go.wp_at_zero Go.wp_at_succ
theorem run_copy3 (w : World) (ty : TypeId) (g o n dc : Nat) (a : Addr) (m sc k : Nat) (vs : List Value) (cur : Array Value) (hg : w.heap[g]? = some (.cells cur 91 (0, 0))) (hk : min n m = k) (hvl : vs.length = k * 3) (hfit : o + k * 3 ≤ cur.size)
    (hvs : ∀ j u, vs[j]? = some u → w.cell? (a.add j) = some u) (h1 : ∀ u ∈ vs, u.oneCell' = true) :
    (Builtin.copy_ #[66, 66] ty #[.slice (some ⟨g, o, none⟩) n dc, .slice (some a) m sc]).run Try.prog w = .ok (goInt k) (w.setRow g (cur.toList.take o ++ vs ++ cur.toList.drop (o + vs.length)).toArray) := by
  obtain ⟨i0, hi, hz0, hz1, hz2⟩ := inE_bat
  have hst := run_storeCells_at Try.prog g o 91 vs 0 cur w hg (by omega) h1
  have hl := run_loadCells_list (P := Try.prog) w a vs hvs
  rw [hvl] at hl
  have hk2 : m.min n = k := by rw [← hk]; exact Nat.min_comm m n
  simp only [Nat.add_zero] at hst
  simp [Builtin.copy_, run_underlying Try.underlying66, Builtin.lenOf, Builtin.firstCells, sizeOf, typeInfo, hi, hz1, hk2, hl, hst]
theorem take_len {α : Type} {A B : List α} {n : Nat} (h : A.length = n) : (A ++ B).take n = A := by rw [← h]; exact List.take_left
theorem drop_len {α : Type} {A B : List α} {n : Nat} (h : A.length = n) : (A ++ B).drop n = B := by rw [← h]; exact List.drop_left
theorem splice {α : Type} (C L F : List α) (a m : Nat) (hL : C.take m = L) (ha : a ≤ m) (hF : F.length = 3) (hm : m + 3 ≤ C.length) (C1 C2 : List α)
    (h1 : C1 = C.take (a + 3) ++ L.drop a ++ C.drop (a + 3 + (L.drop a).length)) (h2 : C2 = C1.take a ++ F ++ C1.drop (a + F.length)) :
    C1.length = C.length ∧ C2.length = C.length ∧ C2.take (m + 3) = L.take a ++ (F ++ L.drop a) := by
  have hLl : L.length = m := by rw [← hL, List.length_take]; omega
  have hd : (L.drop a).length = m - a := by rw [List.length_drop, hLl]
  have e1 : C1.take a = L.take a := by
    rw [h1, List.append_assoc, List.take_append_of_le_length (by rw [List.length_take]; omega), List.take_take, ← hL, List.take_take]
    congr 1; omega
  have e2 : C1.drop (a + F.length) = L.drop a ++ C.drop (a + 3 + (L.drop a).length) := by
    rw [h1, hF, List.append_assoc]
    exact drop_len (by rw [List.length_take]; omega)
  rw [e1, e2] at h2
  refine ⟨?_, ?_, ?_⟩
  · rw [h1]; simp only [List.length_append, List.length_take, List.length_drop]; omega
  · rw [h2]; simp only [List.length_append, List.length_take, List.length_drop]; omega
  · rw [h2, show L.take a ++ F ++ (L.drop a ++ C.drop (a + 3 + (L.drop a).length)) = (L.take a ++ (F ++ L.drop a)) ++ C.drop (a + 3 + (L.drop a).length) by simp]
    exact take_len (by simp only [List.length_append, List.length_take, List.length_drop]; omega)
theorem splice2 {α : Type} (C L F : List α) (a m : Nat) (hL : C.take a = L.take a) (hLl : L.length = m) (ha : a ≤ m) (hF : F.length = 3) (hm : m + 3 ≤ C.length) (C1 C2 : List α)
    (h1 : C1 = C.take a ++ F ++ C.drop (a + F.length)) (h2 : C2 = C1.take (a + 3) ++ L.drop a ++ C1.drop (a + 3 + (L.drop a).length)) :
    C1.length = C.length ∧ C2.length = C.length ∧ C2.take (m + 3) = L.take a ++ (F ++ L.drop a) := by
  have hd : (L.drop a).length = m - a := by rw [List.length_drop, hLl]
  have hl1 : C1.length = C.length := by rw [h1]; simp only [List.length_append, List.length_take, List.length_drop]; omega
  have e1 : C1.take (a + 3) = C.take a ++ F := by
    rw [h1]; exact take_len (by simp only [List.length_append, List.length_take]; omega)
  rw [e1, hL] at h2
  refine ⟨hl1, ?_, ?_⟩
  · rw [h2]; simp only [List.length_append, List.length_take, List.length_drop]; omega
  · rw [h2, show L.take a ++ F ++ L.drop a ++ C1.drop (a + 3 + (L.drop a).length) = (L.take a ++ (F ++ L.drop a)) ++ C1.drop (a + 3 + (L.drop a).length) by simp]
    exact take_len (by simp only [List.length_append, List.length_take, List.length_drop]; omega)
theorem kept_setRow {K : Nat → Prop} {w W : World} {g : Nat} {cs : Array Value} (h : Kept K w W) (hn : ¬ K g) : Kept K w (W.setRow g cs) :=
  ⟨h.os, h.tape, h.output, by simp [World.setRow]; exact h.size, fun k hk => by rw [setRow_other W g k cs (fun e => hn (by rw [← e]; exact hk))]; exact h.block k hk⟩
theorem one_cells {w : World} {vb : Nat} {fs : List Value} (h3 : fs.length = 3) (hv : w.heap[vb]? = some (.cells fs.toArray 91 (0, 0))) : ∀ j u, fs[j]? = some u → w.cell? ((⟨vb, 0, none⟩ : Addr).add j) = some u := fun j u hu => by
  rw [addr_add, Nat.zero_add]
  exact cell_of_row hv (by simpa using hu)
/-- What Insert answers: a row with one more, all else being as it was. -/
def InsR (base : Nat) (v : Value) (n : Nat) (cs' : List Value) (w : World) (e : Ending) (w' : World) : Prop :=
  ∃ u, e = .returned u ∧ w'.ownsRow base 91 3 u (n + 1) cs' ∧ Kept (fun b => b < w.heap.size ∧ v.ownBlock ≠ some b) w w' ∧ (u.ownBlock = v.ownBlock ∨ ∃ g, w.heap.size ≤ g ∧ u.ownBlock = some g)
set_option maxRecDepth 100000 in
set_option maxHeartbeats 2000000 in
/-- At the end. -/
theorem insEnd_any (v : Value) (cs : List Value) (n : Nat) (fs : List Value) (hfs3 : fs.length = 3) (hfs1 : ∀ u ∈ fs, u.oneCell' = true) (vb base : Nat) (w : World) (hbase : base ≤ w.heap.size) (h : w.ownsRow base 91 3 v n cs) (hm : (n + 1) * 40 ≤ 140737488355328)
    (hv : w.heap[vb]? = some (.cells fs.toArray 91 (0, 0))) :
    Calls Try.prog 63 #[v, .int .i64 n, .slice (some ⟨vb, 0, none⟩) 1 1] w fun e w' => InsR base v n (cs ++ fs) w e w' := by
  obtain ⟨i0, hi0, hz0', hz1', hz2'⟩ := inE_bat
  obtain ⟨v', X2, e2, ho2, h5, _, h6⟩ := run_append_own_at (P := Try.prog) w base 66 66 91 i0 _ 3 40 Try.underlying66 hi0 hz0' hz1' hz2' rfl (by decide) v n cs h ⟨vb, 0, none⟩ 1 1 fs (by rw [hfs3]) (one_cells hfs3 hv) hfs1 (by unfold maxLen; omega) hm hbase
  have HF : Hid (InsR base v n (cs ++ fs) w (.returned v') X2) := ⟨_, rfl, ho2, ⟨h5.os, h5.tape, h5.output, h5.size, fun b hb => h5.block b hb.1 (fun e => hb.2 e.symm)⟩, by
    rcases h6 with h6 | h6
    · exact .inl h6
    · exact .inr ⟨_, Nat.le_refl _, h6⟩⟩
  obtain ⟨hl, ⟨rfl, h0⟩ | ⟨g, cap, cur, rfl, hbg, hg, hnc, hcm, hcs, htake⟩⟩ := h
  · subst h0
    clear hl hv ho2 h5 h6
    go_enter Try.func63, Try.ntmps63
    go_wp2_with (at_builtin; refine Lib.wpList_append_run _ rfl _ _ _ _ rfl _ _ rfl rfl _ _ e2 ?_)
    go_ret
    exact HF.out
  · have z0 : ((1 : Int) == 0) = false := rfl
    have zc : cap ≤ 9223372036854775807 := by unfold maxLen at hcm; omega
    clear hl hv htake hg hcs hcm ho2 h5 h6
    by_cases hcn : cap = n
    · subst hcn
      go_enter Try.func63, Try.ntmps63
      go_wp2_with (at_builtin; refine Lib.wpList_append_run _ rfl _ _ _ _ rfl _ _ rfl rfl _ _ e2 ?_)
      go_ret
      exact HF.out
    · go_enter Try.func63, Try.ntmps63
      go_wp2_with (at_builtin; refine Lib.wpList_append_run _ rfl _ _ _ _ rfl _ _ rfl rfl _ _ e2 ?_)
      go_ret
      exact HF.out
set_option maxRecDepth 100000 in
set_option maxHeartbeats 2000000 in
/-- There is room. -/
theorem insRoom_any (g cap : Nat) (cur : Array Value) (cs : List Value) (n : Nat) (hfl : cs.length = n * 3) (hcs1 : ∀ u ∈ cs, u.oneCell' = true) (k : Nat) (fs : List Value) (hfs3 : fs.length = 3) (hfs1 : ∀ u ∈ fs, u.oneCell' = true) (vb base : Nat) (w : World) (hbg : base ≤ g) (hg : w.heap[g]? = some (.cells cur 91 (0, 0))) (hcs : cur.size = cap * 3) (hcm : cap ≤ maxLen) (htake : cur.toList.take (n * 3) = cs)
    (hk : k < n) (hroom : n + 1 ≤ cap) (hvb : vb ≠ g)
    (hv : w.heap[vb]? = some (.cells fs.toArray 91 (0, 0))) :
    Calls Try.prog 63 #[.slice (some ⟨g, 0, none⟩) n cap, .int .i64 k, .slice (some ⟨vb, 0, none⟩) 1 1] w fun e w' => InsR base (.slice (some ⟨g, 0, none⟩) n cap) n (cs.take (k * 3) ++ (fs ++ cs.drop (k * 3))) w e w' := by
  have hcl : cur.toList.length = cap * 3 := by rw [Array.length_toList]; exact hcs
  obtain ⟨C1, hC1⟩ : ∃ C1, C1 = cur.toList.take (k * 3 + 3) ++ cs.drop (k * 3) ++ cur.toList.drop (k * 3 + 3 + (cs.drop (k * 3)).length) := ⟨_, rfl⟩
  obtain ⟨C2, hC2⟩ : ∃ C2, C2 = C1.take (k * 3) ++ fs ++ C1.drop (k * 3 + fs.length) := ⟨_, rfl⟩
  obtain ⟨l1, l2, l3⟩ := splice cur.toList cs fs (k * 3) (n * 3) htake (by omega) (hfs3) (by rw [hcl]; omega) C1 C2 hC1 hC2
  have hsrc : ∀ j u, (cs.drop (k * 3))[j]? = some u → w.drew.cell? ((⟨g, k * 3, none⟩ : Addr).add j) = some u := fun j u hu => by
    rw [Go.WideShapes.add_plain]
    refine cell_of_row (W := w.drew) hg ?_
    rw [List.getElem?_drop, ← htake] at hu
    have := List.getElem?_take (l := cur.toList) (i := n * 3) (j := k * 3 + j)
    rw [hu] at this
    split at this
    · simpa using this.symm
    · cases this
  have hcp1 : ∀ ty dc sc n1 n2, min n1 n2 = n - k → (Builtin.copy_ #[66, 66] ty #[.slice (some ⟨g, (k + 1) * 3, none⟩) n1 dc, .slice (some ⟨g, k * 3, none⟩) n2 sc]).run Try.prog w.drew = .ok (goInt (n - k : Nat)) (w.drew.setRow g C1.toArray) := fun ty dc sc n1 n2 hn => by
    rw [Nat.add_mul k 1 3]
    have := run_copy3 w.drew ty g (k * 3 + 3) n1 dc ⟨g, k * 3, none⟩ n2 sc (n - k) (cs.drop (k * 3)) cur hg hn (by rw [List.length_drop, hfl]; omega) (by rw [hcs]; omega) hsrc (fun u hu => hcs1 u (List.mem_of_mem_drop hu))
    rw [this, hC1]
  obtain ⟨W1, hW1⟩ : ∃ W1, W1 = w.drew.setRow g C1.toArray := ⟨_, rfl⟩
  have hg1 : W1.heap[g]? = some (.cells C1.toArray 91 (0, 0)) := by rw [hW1]; exact setRow_heap _ _ cur _ 91 (0, 0) hg
  have hv1 : W1.heap[vb]? = some (.cells fs.toArray 91 (0, 0)) := by rw [hW1, setRow_other _ _ _ _ hvb]; exact hv
  have hb1 : Kept (fun b => b < w.heap.size ∧ (Value.slice (some ⟨g, 0, none⟩) n cap).ownBlock ≠ some b) w W1 := by rw [hW1]; exact kept_setRow (Kept.refl _ _).drew (fun h => h.2 rfl)
  have hcp2 : ∀ ty dc n1, min n1 1 = 1 → (Builtin.copy_ #[66, 66] ty #[.slice (some ⟨g, k * 3, none⟩) n1 dc, .slice (some ⟨vb, 0, none⟩) 1 1]).run Try.prog W1 = .ok (goInt (1 : Nat)) (W1.setRow g C2.toArray) := fun ty dc n1 hn => by
    have := run_copy3 W1 ty g (k * 3) n1 dc ⟨vb, 0, none⟩ 1 1 1 fs C1.toArray hg1 hn (by rw [hfs3]) (by simp; rw [l1, hcl]; omega) (one_cells hfs3 hv1) hfs1
    rw [this, hC2]
  have hlen : (cs.take (k * 3) ++ (fs ++ cs.drop (k * 3))).length = (n + 1) * 3 := by simp only [List.length_append, List.length_take, List.length_drop]; omega
  have HF : Hid (InsR base (.slice (some ⟨g, 0, none⟩) n cap) n (cs.take (k * 3) ++ (fs ++ cs.drop (k * 3))) w (.returned (.slice (some ⟨g, 0, none⟩) (n + 1) cap)) (W1.setRow g C2.toArray)) :=
    ⟨_, rfl, ⟨hlen, .inr ⟨g, cap, C2.toArray, rfl, hbg, setRow_heap _ _ C1.toArray _ 91 (0, 0) hg1, hroom, hcm, by simp; rw [l2, hcl], by rw [← l3, Nat.add_mul]⟩⟩, kept_setRow hb1 (fun h => h.2 rfl), .inl rfl⟩
  have hov : ∀ lb cb, (callFunc 70 #[.slice (some ⟨vb, 0, none⟩) 1 1, .slice (some ⟨g, (k + 1) * 3, none⟩) lb cb]).run Try.prog w = .ok (.value (.bool false)) w := fun lb cb => by
    rw [run_callFunc_extern Try.func70 (by kernel_rfl) (by kernel_rfl) (by kernel_rfl) (e := Extern.SlicesOverlaps.overlaps #[66, 66] #[4]) (by kernel_rfl),
      Lib.run_overlaps_apart w 66 4 91 Try.underlying66 3 (fun w => Try.sizeOf91 w) ⟨vb, 0, none⟩ ⟨g, (k + 1) * 3, none⟩ 1 1 lb cb hvb 91 91 3 (cap * 3) (by simp [World.shape?, hv, hfs3]) (by simp [World.shape?, hg, hcs]) (by omega) (frozen_zero hv 0) (frozen_zero hv 3)]
    rfl
  have z1 : ¬ ((k : Int) = (n : Int)) := by omega
  have z2 : ¬ (cap = k) := by omega
  have z3 : ¬ (cap = k + 1) := by omega
  have zc : cap ≤ 9223372036854775807 := by unfold maxLen at hcm; omega
  have hw1 : IntKind.i64.wrap ((k : Int) + 1) = (k : Int) + 1 := by rw [IntKind.wrap_i64]; omega
  have hb1 : (0 : Int) ≤ (k : Int) + 1 := by omega
  have htn : ((k : Int) + 1).toNat = k + 1 := by omega
  have hb2 : k ≤ n := by omega
  have hb3 : (k : Int) ≤ (n : Int) + 1 := by omega
  rw [← hW1] at hcp1
  clear hsrc hg1 hv1 hb1 hg hv htake hcs hcm hC1 hC2 l1 l2 l3 hfl hcl hW1
  go_enter Try.func63, Try.ntmps63
  go_wp2_with (simp only [hov])
  have hb1 : (0 : Int) ≤ (k : Int) + 1 := by omega
  go_region_law (refine step_copy_runI rfl _ _ 66 66 rfl (.slice (some ⟨g, (k + 1) * 3, none⟩) (n - k) (cap - (k + 1))) (.slice (some ⟨g, k * 3, none⟩) (n + 1 - k) (cap - k)) (by simp [Act.eval, Act.put]) (by simp [Act.eval, Act.put]) (hcp1 3 (cap - (k + 1)) (cap - k) (n - k) (n + 1 - k) (by omega)) ?_)
  have q2 := hcp2 3 (cap - k) (n + 1 - k) (by omega)
  clear hcp1 hcp2 hov
  go_wp2_with fail
  go_ret
  exact HF.out
set_option maxRecDepth 100000 in
set_option maxHeartbeats 2000000 in
/-- There is no room. -/
theorem insGrow_any (g cap : Nat) (cur : Array Value) (cs : List Value) (n : Nat) (hfl : cs.length = n * 3) (hcs1 : ∀ u ∈ cs, u.oneCell' = true) (k : Nat) (fs : List Value) (hfs3 : fs.length = 3) (hfs1 : ∀ u ∈ fs, u.oneCell' = true) (vb base : Nat) (w : World) (hbase : base ≤ w.heap.size) (hg : w.heap[g]? = some (.cells cur 91 (0, 0))) (hcs : cur.size = cap * 3) (hcm : cap ≤ maxLen) (htake : cur.toList.take (n * 3) = cs)
    (hk : k < n) (hnc : n ≤ cap) (hroom : cap < n + 1) (hm : (n + 1) * 40 ≤ 140737488355328)
    (hv : w.heap[vb]? = some (.cells fs.toArray 91 (0, 0))) :
    Calls Try.prog 63 #[.slice (some ⟨g, 0, none⟩) n cap, .int .i64 k, .slice (some ⟨vb, 0, none⟩) 1 1] w fun e w' => InsR base (.slice (some ⟨g, 0, none⟩) n cap) n (cs.take (k * 3) ++ (fs ++ cs.drop (k * 3))) w e w' := by
  obtain ⟨i0, hi0, hz0, hzs, hzb⟩ := inE_bat
  have hcl : cur.toList.length = cap * 3 := by rw [Array.length_toList]; exact hcs
  have hgl : g < w.heap.size := (Array.getElem?_eq_some_iff.1 hg).1
  have hvl : vb < w.heap.size := (Array.getElem?_eq_some_iff.1 hv).1
  have hcell : ∀ j u, cs[j]? = some u → cur[j]? = some u := fun j u hu => by
    rw [← htake] at hu
    have := List.getElem?_take (l := cur.toList) (i := n * 3) (j := j)
    rw [hu] at this
    split at this
    · simpa using this.symm
    · cases this
  have hold : (Builtin.firstCells i0.size k (.slice (some ⟨g, 0, none⟩) k cap)).run Try.prog w.drew = .ok (cs.take (k * 3)).toArray w.drew := by
    rw [hzs]
    exact run_firstCells_some w.drew 3 k ⟨g, 0, none⟩ k cap (cs.take (k * 3)) (by rw [List.length_take]; omega) (fun j v hj => by
      rw [Go.WideShapes.add_plain, Nat.zero_add]
      refine cell_of_row (W := w.drew) hg (hcell j v ?_)
      rw [List.getElem?_take] at hj
      split at hj
      · exact hj
      · cases hj)
  obtain ⟨G, hG⟩ : ∃ G, G = grownCap w (n + 1) cap 91 := ⟨_, rfl⟩
  obtain ⟨Z1, hZ1⟩ : ∃ Z1, Z1 = Builtin.zeroCells (Value.agg #[.int .u64 0, .bool false, .slice none 0 0]).cells (n + 1 - k) := ⟨_, rfl⟩
  obtain ⟨Z2, hZ2⟩ : ∃ Z2, Z2 = Builtin.zeroCells (Value.agg #[.int .u64 0, .bool false, .slice none 0 0]).cells (G - (n + 1)) := ⟨_, rfl⟩
  have hs1 : Z1.size = (n + 1 - k) * 3 := by rw [hZ1]; simp [Builtin.zeroCells, Value.cells]
  have hs2 : Z2.size = (G - (n + 1)) * 3 := by rw [hZ2]; simp [Builtin.zeroCells, Value.cells]
  obtain ⟨W1, hW1⟩ : ∃ W1, W1 = w.drew.alloc (.cells ((cs.take (k * 3)).toArray ++ Z1 ++ Z2) 91) := ⟨_, rfl⟩
  have hik : k + (n + 1 - k) = n + 1 := by omega
  have hrz : ∀ ty, (Builtin.append_ #[66, 3] ty #[.slice (some ⟨g, 0, none⟩) k cap, .int .i64 ((n + 1 - k : Nat) : Int)]).run Try.prog w = .ok (.slice (some ⟨w.heap.size, 0, none⟩) (n + 1) G) W1 := fun ty => by
    have h := Lib.run_append_grow_zeros w 66 3 ty 91 i0 _ .i64 .i64 Try.underlying66 Try.underlying3 hi0 hz0 (some ⟨g, 0, none⟩) k cap (cs.take (k * 3)) hold (n + 1 - k) (by omega) (by omega) (by omega) (by omega) (by rw [hzb]; omega) (by rw [hzb, hik]; exact growslice_fits hroom hm)
    rw [hik, ← hG, ← hZ1, ← hZ2, ← hW1] at h
    exact h
  have hGn : n + 1 ≤ G := by rw [hG]; exact grownCap_ge w _ _ _
  have hGm : G ≤ maxLen := by rw [hG]; exact grownCap_le_maxLen w (n + 1) cap 91 (by unfold maxLen; omega)
  obtain ⟨C, hC⟩ : ∃ C : List Value, C = (cs.take (k * 3)) ++ (Z1.toList ++ Z2.toList) := ⟨_, rfl⟩
  have hCl : C.length = G * 3 := by rw [hC]; simp only [List.length_append, List.length_take, Array.length_toList]; omega
  have hg1 : W1.heap[w.heap.size]? = some (.cells C.toArray 91 (0, 0)) := by
    rw [hW1]
    have := heap_alloc_new w.drew (.cells ((cs.take (k * 3)).toArray ++ Z1 ++ Z2) 91)
    rw [show w.drew.heap.size = w.heap.size from rfl] at this
    rw [this, hC]
    congr 2
    apply Array.ext'
    simp
  have hb1 : Below w.heap.size w W1 := by rw [hW1]; exact (Below.refl w.heap.size w).drew.alloc (Nat.le_refl _) _
  have hv1 : W1.heap[vb]? = some (.cells fs.toArray 91 (0, 0)) := by rw [hb1.block _ hvl]; exact hv
  have hgo1 : W1.heap[g]? = some (.cells cur 91 (0, 0)) := by rw [hb1.block _ hgl]; exact hg
  obtain ⟨C1, hC1⟩ : ∃ C1, C1 = C.take (k * 3) ++ fs ++ C.drop (k * 3 + fs.length) := ⟨_, rfl⟩
  obtain ⟨C2, hC2⟩ : ∃ C2, C2 = C1.take (k * 3 + 3) ++ cs.drop (k * 3) ++ C1.drop (k * 3 + 3 + (cs.drop (k * 3)).length) := ⟨_, rfl⟩
  obtain ⟨l1, l2, l3⟩ := splice2 C cs fs (k * 3) (n * 3) (by rw [hC]; exact take_len (by rw [List.length_take]; omega)) hfl (by omega) (hfs3) (by rw [hCl]; omega) C1 C2 hC1 hC2
  obtain ⟨W2, hW2⟩ : ∃ W2, W2 = W1.setRow w.heap.size C1.toArray := ⟨_, rfl⟩
  have hcp1 : (Builtin.copy_ #[66, 66] 3 #[.slice (some ⟨w.heap.size, k * 3, none⟩) (n + 1 - k) (G - k), .slice (some ⟨vb, 0, none⟩) 1 1]).run Try.prog W1 = .ok (goInt (1 : Nat)) W2 := by
    have := run_copy3 W1 3 w.heap.size (k * 3) (n + 1 - k) (G - k) ⟨vb, 0, none⟩ 1 1 1 fs C.toArray hg1 (by omega) (by rw [hfs3]) (by simp; rw [hCl]; omega) (one_cells hfs3 hv1) hfs1
    rw [this, hW2, hC1]
  have hg2 : W2.heap[w.heap.size]? = some (.cells C1.toArray 91 (0, 0)) := by rw [hW2]; exact setRow_heap _ _ C.toArray _ 91 (0, 0) hg1
  have hgo2 : W2.heap[g]? = some (.cells cur 91 (0, 0)) := by rw [hW2, setRow_other _ _ _ _ (by omega)]; exact hgo1
  have hb2 : Below w.heap.size w W2 := by rw [hW2]; exact below_setRow hb1 (Nat.le_refl _) _
  have hcp2 : (Builtin.copy_ #[66, 66] 3 #[.slice (some ⟨w.heap.size, (k + 1) * 3, none⟩) (n - k) (G - (k + 1)), .slice (some ⟨g, k * 3, none⟩) (n - k) (cap - k)]).run Try.prog W2.drew = .ok (goInt (n - k : Nat)) (W2.drew.setRow w.heap.size C2.toArray) := by
    rw [Nat.add_mul k 1 3]
    have := run_copy3 W2.drew 3 w.heap.size (k * 3 + 3) (n - k) (G - (k + 1)) ⟨g, k * 3, none⟩ (n - k) (cap - k) (n - k) (cs.drop (k * 3)) C1.toArray hg2 (by omega) (by rw [List.length_drop, hfl]; omega) (by simp; rw [l1, hCl]; omega)
      (fun j u hu => by
        rw [Go.WideShapes.add_plain]
        rw [List.getElem?_drop] at hu
        exact cell_of_row (W := W2.drew) hgo2 (hcell _ u hu)) (fun u hu => hcs1 u (List.mem_of_mem_drop hu))
    rw [this, hC2]
  have hlen : (cs.take (k * 3) ++ (fs ++ cs.drop (k * 3))).length = (n + 1) * 3 := by simp only [List.length_append, List.length_take, List.length_drop]; omega
  have hkk : Kept (fun b => b < w.heap.size ∧ (Value.slice (some ⟨g, 0, none⟩) n cap).ownBlock ≠ some b) w W2 := kept_of (fun b h => h.1) hb2
  have HF : Hid (InsR base (.slice (some ⟨g, 0, none⟩) n cap) n (cs.take (k * 3) ++ (fs ++ cs.drop (k * 3))) w (.returned (.slice (some ⟨w.heap.size, 0, none⟩) (n + 1) G)) (W2.drew.setRow w.heap.size C2.toArray)) :=
    ⟨_, rfl, ⟨hlen, .inr ⟨w.heap.size, G, C2.toArray, rfl, hbase, setRow_heap W2.drew _ C1.toArray _ 91 (0, 0) hg2, hGn, hGm, by simp; rw [l2, hCl], by rw [← l3, Nat.add_mul]⟩⟩, kept_setRow hkk.drew (fun h => by have := h.1; omega), .inr ⟨_, Nat.le_refl _, rfl⟩⟩
  have z1 : ¬ ((k : Int) = (n : Int)) := by omega
  have z2 : ¬ (cap = k) := by omega
  have z4 : ¬ (G = k) := by omega
  have z5 : ¬ (G = k + 1) := by omega
  have z6 : (cap : Int) < (n : Int) + 1 := by omega
  have zc : cap ≤ 9223372036854775807 := by unfold maxLen at hcm; omega
  have zg : G ≤ 9223372036854775807 := by unfold maxLen at hGm; omega
  have hw1 : IntKind.i64.wrap ((k : Int) + 1) = (k : Int) + 1 := by rw [IntKind.wrap_i64]; omega
  have hw2 : IntKind.i64.wrap ((n : Int) + 1 - (k : Int)) = ((n + 1 - k : Nat) : Int) := by rw [IntKind.wrap_i64]; omega
  have hw3 : (n : Int) + 1 - (k : Int) = ((n + 1 - k : Nat) : Int) := by omega
  have htn : ((k : Int) + 1).toNat = k + 1 := by omega
  have hb2' : k ≤ n := by omega
  have hb3 : (k : Int) ≤ (n : Int) + 1 := by omega
  clear hg1 hv1 hb1 hg hv htake hcs hcm hC1 hC2 l1 l2 l3 hfl hcl hW1 hW2 hg2 hgo1 hgo2 hb2 hC hCl hkk hold hcell hs1 hs2 hZ1 hZ2 hG hGm hik
  go_enter Try.func63, Try.ntmps63
  go_wp2_with (at_builtin; refine Lib.wpList_append_run _ rfl _ _ _ _ rfl _ _ rfl rfl _ _ (hrz _) ?_)
  have hb1 : (0 : Int) ≤ (k : Int) + 1 := by omega
  go_region_law (refine step_copy_runI rfl _ _ 66 66 rfl (.slice (some ⟨w.heap.size, (k + 1) * 3, none⟩) (n - k) (G - (k + 1))) (.slice (some ⟨g, k * 3, none⟩) (n - k) (cap - k)) (by simp [Act.eval, Act.put]) (by simp [Act.eval, Act.put]) hcp2 ?_)
  go_wp2_with fail
  go_ret
  exact HF.out
theorem insert_any (v : Value) (cs : List Value) (n : Nat) (hcs1 : ∀ u ∈ cs, u.oneCell' = true) (k : Nat) (hk : k ≤ n) (fs : List Value) (hfs3 : fs.length = 3) (hfs1 : ∀ u ∈ fs, u.oneCell' = true) (vb base : Nat) (w : World) (hbase : base ≤ w.heap.size) (h : w.ownsRow base 91 3 v n cs) (hm : (n + 1) * 40 ≤ 140737488355328)
    (hv : w.heap[vb]? = some (.cells fs.toArray 91 (0, 0))) (hvo : v.ownBlock ≠ some vb) :
    Calls Try.prog 63 #[v, .int .i64 k, .slice (some ⟨vb, 0, none⟩) 1 1] w fun e w' => InsR base v n (cs.take (k * 3) ++ (fs ++ cs.drop (k * 3))) w e w' := by
  by_cases e : k = n
  · subst e
    have hl := h.1
    rw [List.take_of_length_le (by omega), List.drop_of_length_le (by omega), List.append_nil]
    exact insEnd_any v cs k fs hfs3 hfs1 vb base w hbase h hm hv
  · obtain ⟨hl, ⟨rfl, h0⟩ | ⟨g, cap, cur, rfl, hbg, hg, hnc, hcm, hcs, htake⟩⟩ := h
    · omega
    · by_cases hr : n + 1 ≤ cap
      · exact insRoom_any g cap cur cs n hl hcs1 k fs hfs3 hfs1 vb base w hbg hg hcs hcm htake (by omega) hr (fun e => hvo (by rw [e]; rfl)) hv
      · exact insGrow_any g cap cur cs n hl hcs1 k fs hfs3 hfs1 vb base w hbase hg hcs hcm htake (by omega) hnc (by omega) hm hv
end Go.Proofs.Ytcmiphgeakdonaa
