/- Files that are copied and left out: what strings.Clone, slices.Clone, IndexFunc, DeleteFunc and without answer. -/
import Derived.Test.YtedjfbkpebmggaaDb
import Derived.Test.YtedjfbkpebmggaaShelf
namespace Go.Proofs.Ytedjfbkpebmggaa
open Go.Shelf Go.RowKit Go.Lib Go.Sort
set_option linter.unusedVariables false
set_option linter.unusedSimpArgs false
attribute [local go_sem ↓] Go.wp_at_zero Go.wp_at_succ
theorem sclone_any (s : ByteArray) (w : World) (hlim : s.size ≤ 281474976710656) : Calls Try.prog 38 #[.string s] w fun e w' => e = .returned (.string s) ∧ Below w.heap.size w w' := Any.stringslite_Clone Try.laysM316 s w hlim
theorem clone_any (s : ByteArray) (w : World) (hlim : s.size ≤ 140737488355328) : Calls Try.prog 29 #[.string s] w fun e w' => e = .returned (.string s) ∧ Below w.heap.size w w' := by
  have C : Hid (Calls Try.prog 38 #[.string s] w fun e w' => e = .returned (.string s) ∧ Below w.heap.size w w') := sclone_any s w (by omega)
  go_enter Try.func29, Try.ntmps29
  go_wp2_with fail
  refine C.out.mono ?_
  rintro e w1 ⟨rfl, hb⟩
  go_wp2_with fail
  go_ret
  exact ⟨rfl, hb⟩
set_option maxRecDepth 100000 in
set_option maxHeartbeats 2000000 in
theorem cloneF_any (v : Value) (fs : List DF) (w : World) (h : FsL w v fs) :
    Calls Try.prog 30 #[v] w fun e w' => ∃ u, e = .returned u ∧ OwnF w.heap.size w' u fs ∧ Below w.heap.size w w' := by
  obtain ⟨p, c, rfl, hl, hs, hp⟩ := h
  cases p with
  | none =>
    have h0 : fs = [] := by
      by_cases h0 : 0 < fs.length
      · obtain ⟨b, o, e, _⟩ := hp h0; cases e
      · exact List.eq_nil_of_length_eq_zero (by omega)
    subst h0
    have hq : (binOp .eql 22 (.slice none 0 c) (.slice none 0 0)).run Try.prog w = .ok (.bool true) w := Lib.run_eql_slice_nil (h := Try.underlying22) ..
    clear hp
    go_enter Try.func30, Try.ntmps30
    go_wp2_with fail
    go_ret
    exact ⟨_, rfl, World.ownsRow_nil _ _ _ _, Below.refl _ _⟩
  | some ad =>
    have HC : Hid (∀ j u, (flat fs)[j]? = some u → (w.alloc (.cells #[] 41)).cell? (ad.add j) = some u) := fun j u hu => by
      by_cases h0 : 0 < fs.length
      · obtain ⟨b, o, e, hlt, hc⟩ := hp h0
        cases e
        rw [Go.WideShapes.add_plain, World.cell?_of_block (w := w) (heap_alloc_old w _ hlt), ← Go.WideShapes.add_plain]
        exact flat_add hc j u hu
      · rw [List.eq_nil_of_length_eq_zero (by omega : fs.length = 0)] at hu; simp [flat] at hu
    obtain ⟨i0, hi0, hz0', hz1', hz2'⟩ := info41
    have hown : (w.alloc (.cells #[] 41)).ownsRow w.heap.size 41 3 (.slice (some ⟨w.heap.size, 0, none⟩) 0 0) 0 [] := ⟨rfl, .inr ⟨w.heap.size, 0, #[], rfl, Nat.le_refl _, heap_alloc_new w _, Nat.le_refl _, Nat.zero_le _, rfl, rfl⟩⟩
    have hq : (binOp .eql 22 (.slice (some ad) fs.length c) (.slice none 0 0)).run Try.prog w = .ok (.bool false) w := Lib.run_eql_slice_nil (h := Try.underlying22) ..
    have HL : Hid ((flat fs).length = fs.length * 3) := flat_length fs
    have HO : Hid (∀ u ∈ flat fs, u.oneCell' = true) := flat_one fs
    clear hp
    go_enter Try.func30, Try.ntmps30
    go_wp2_with (at_builtin; refine wpList_append_own _ rfl _ _ 22 rfl w.heap.size 41 i0 _ 3 40 Try.underlying22 hi0 hz0' hz1' hz2' rfl (by decide) _ 0 [] rfl hown ad fs.length c (flat fs) rfl HL.out HC.out HO.out (by unfold maxLen; omega) (by omega) (by simp) ?_; intro v' w3 hown' hgrow3 hnil3)
    go_ret
    refine ⟨_, rfl, ?_, ?_⟩
    · unfold OwnF; simpa using hown'
    · exact Below.grown ((Below.refl _ _).alloc (Nat.le_refl _) _) hgrow3 (by simp) (fun j hj => by have := (hown.lt _ hj).1; omega)
/-- Those that are called otherwise. -/
def wo (nm : ByteArray) (fs : List DF) : List DF := fs.filter fun f => !eqB f.n nm
theorem wo_step (nm : ByteArray) (fs : List DF) (j : Nat) (h : j < fs.length) : wo nm (fs.take (j + 1)) = if eqB fs[j].n nm then wo nm (fs.take j) else wo nm (fs.take j) ++ [fs[j]] := by
  unfold wo
  rw [List.take_succ_eq_append_getElem h, List.filter_append]
  cases h : eqB fs[j].n nm <;> simp [h]
theorem wo_small {nm : ByteArray} {fs : List DF} (h : SmallF fs) : SmallF (wo nm fs) := fun f hf => h f (List.mem_filter.1 hf).1
theorem wo_length (nm : ByteArray) (fs : List DF) : (wo nm fs).length ≤ fs.length := List.length_filter_le _ _
/-- The box of a name. -/
def BoxN (W : World) (ba : Nat) (nm : ByteArray) : Prop := ba < W.heap.size ∧ W.cell? ⟨ba, 0, none⟩ = some (.string nm)
theorem BoxN.below {W W' : World} {ba : Nat} {nm : ByteArray} (h : BoxN W ba nm) (hb : Below W.heap.size W W') : BoxN W' ba nm :=
  ⟨Nat.lt_of_lt_of_le h.1 hb.size, by rw [hb.cell (p := ⟨ba, _, none⟩) h.1]; exact h.2⟩
set_option maxRecDepth 100000 in
set_option maxHeartbeats 2000000 in
theorem named_any (ba : Nat) (nm : ByteArray) (n d : ByteArray) (y : Int) (w : World) (hx : BoxN w ba nm) :
    Calls Try.prog 49 #[.agg #[.string n, .string d, .int .i64 y], .pointer (some ⟨ba, 0, none⟩)] w fun e w' => e = .returned (.bool (eqB n nm)) ∧ Below w.heap.size w w' := by
  obtain ⟨h0, h1⟩ := hx
  have HB : Hid (Below w.heap.size w (w.alloc (.cells #[.string n, .string d, .int .i64 y] 41))) := one_below _ _
  have h2 : (w.alloc (.cells #[.string n, .string d, .int .i64 y] 41)).cell? ⟨ba, 0, none⟩ = some (.string nm) := by rw [HB.out.cell (p := ⟨ba, _, none⟩) h0]; exact h1
  unfold eqB
  clear h1
  go_enter Try.func49, Try.ntmps49
  go_wp2_with fail
  go_ret
  exact ⟨rfl, HB.out⟩
set_option maxRecDepth 100000 in
set_option maxHeartbeats 2000000 in
theorem namedIdx_any (ba : Nat) (nm : ByteArray) (v : Value) (fs : List DF) (w : World) (hx : BoxN w ba nm) (h : FsL w v fs) :
    Calls Try.prog 51 #[v, .func (.func 49) #[] #[.pointer (some ⟨ba, 0, none⟩)]] w fun e w' => Below w.heap.size w w' ∧ ((e = .returned (.int .i64 (-1)) ∧ wo nm fs = fs) ∨ ∃ k : Nat, k < fs.length ∧ e = .returned (.int .i64 k) ∧ wo nm (fs.take (k + 1)) = fs.take k) := by
  obtain ⟨p, c, rfl, hl, hs, hp⟩ := h
  have HP : Hid (0 < fs.length → ∃ b o, p = some ⟨b, o, none⟩ ∧ b < w.heap.size ∧ FsIs w b o fs) := hp
  have HX : Hid (BoxN w ba nm) := hx
  clear hp hx hs
  go_enter Try.func51, Try.ntmps51
  go_wp2_with fail
  go_loopg [8] fs.length (fun gf s8 wx => ∃ i : Nat, s8 = .int .i64 i ∧ i ≤ fs.length ∧ fs.length ≤ i + gf ∧ Hid (Below w.heap.size w wx) ∧ Hid (wo nm (fs.take i) = fs.take i))
  case atStart => exact ⟨0, rfl, by omega, by omega, Below.refl _ _, (show _ = _ from rfl)⟩
  case round =>
    obtain ⟨i, rfl, hi1, hgf, HB, HT⟩ := hrel
    by_cases hi : i < fs.length
    · obtain ⟨g', rfl⟩ : ∃ g', gk = g' + 1 := ⟨gk - 1, by omega⟩
      obtain ⟨b, o, rfl, hlt, hc⟩ := HP.out (by omega)
      obtain ⟨c0, c1, c2⟩ := (hc.below hlt HB.out) i hi
      have hst := wo_step nm fs i hi
      have htk : fs.take (i + 1) = fs.take i ++ [fs[i]] := List.take_succ_eq_append_getElem hi
      obtain ⟨⟨n, d, y⟩, hf⟩ : ∃ f, fs[i] = f := ⟨_, rfl⟩
      rw [hf] at c0 c1 c2 hst htk
      simp only at c0 c1 c2 hst
      have C1 : Hid (Calls Try.prog 49 #[.agg #[.string n, .string d, .int .i64 y], .pointer (some ⟨ba, 0, none⟩)] wr fun e w' => e = .returned (.bool (eqB n nm)) ∧ Below wr.heap.size wr w') := named_any ba nm n d y wr (HX.out.below HB.out)
      have z0 : (0 : Int) ≤ (i : Int) := by omega
      have z1 : (i : Int) < (fs.length : Int) := by omega
      clear hc hf
      cases ha : eqB n nm
      · rw [ha] at hst C1
        have HT2 : Hid (wo nm (fs.take (i + 1)) = fs.take (i + 1)) := by show _ = _; rw [hst, htk, if_neg (by simp), HT.out]
        clear hst ha HT htk
        go_wp2_with fail
        refine C1.out.mono ?_
        rintro e w2 ⟨rfl, hb2⟩
        have HB2 : Hid (Below w.heap.size w w2) := HB.out.trans (hb2.mono HB.out.size)
        clear C1 hb2
        go_wp2_with fail
        go_roundg g'
        case measure => omega
        case rel => exact ⟨i + 1, by go_num, by omega, by omega, HB2, HT2⟩
      · rw [ha] at hst C1
        have HF : Hid (wo nm (fs.take (i + 1)) = fs.take i) := by show _ = _; rw [hst, if_pos rfl]; exact HT.out
        clear hst ha HT htk
        go_wp2_with fail
        refine C1.out.mono ?_
        rintro e w2 ⟨rfl, hb2⟩
        have HB2 : Hid (Below w.heap.size w w2) := HB.out.trans (hb2.mono HB.out.size)
        clear C1 hb2
        go_wp2_with fail
        go_ret
        exact ⟨HB2.out, .inr ⟨i, hi, rfl, HF.out⟩⟩
    · have z1 : ¬ (i : Int) < (fs.length : Int) := by omega
      have HF : Hid (wo nm fs = fs) := by have := HT.out; rwa [List.take_of_length_le (by omega)] at this
      clear HT
      go_wp2_with fail
      go_ret
      exact ⟨HB.out, .inl ⟨rfl, HF.out⟩⟩
theorem set_row {W : World} {g k : Nat} {cur : Array Value} (hg : W.heap[g]? = some (.cells cur 41 (0, 0))) (hk : k < cur.size) (v : Value) :
    (∃ o, W.cell? ⟨g, k, none⟩ = some o) ∧ W.frozen? ⟨g, k, none⟩ = false ∧ (W.setCell ⟨g, k, none⟩ v).heap[g]? = some (.cells (cur.setIfInBounds k v) 41 (0, 0)) ∧ ∀ B w0, Below B w0 W → B ≤ g → Below B w0 (W.setCell ⟨g, k, none⟩ v) := by
  refine ⟨⟨cur[k], by simp [World.cell?, hg, hk]⟩, frozen_zero hg k, heap_setCell_same W g k cur 41 v hg, fun B w0 hb hB => ⟨hb.os, hb.tape, hb.output, by simp [World.setCell]; exact hb.size, fun j hj => ?_⟩⟩
  rw [heap_setCell_other _ ⟨g, k, none⟩ j _ (by show j ≠ g; omega)]
  exact hb.block j hj
/-- A file that is stored into a row. -/
theorem set_three {W : World} {g k : Nat} {cur : Array Value} (hg : W.heap[g]? = some (.cells cur 41 (0, 0))) (hk : k + 3 ≤ cur.size) (a b c : Value) :
    ∃ Wa Wb Wc, W.setCell ⟨g, k, none⟩ a = Wa ∧ Wa.setCell ⟨g, k + 1, none⟩ b = Wb ∧ Wb.setCell ⟨g, k + 2, none⟩ c = Wc ∧
      (∃ o, W.cell? ⟨g, k, none⟩ = some o) ∧ W.frozen? ⟨g, k, none⟩ = false ∧ (∃ o, Wa.cell? ⟨g, k + 1, none⟩ = some o) ∧ Wa.frozen? ⟨g, k + 1, none⟩ = false ∧
      (∃ o, Wb.cell? ⟨g, k + 2, none⟩ = some o) ∧ Wb.frozen? ⟨g, k + 2, none⟩ = false ∧ (∀ B w0, Below B w0 W → B ≤ g → Below B w0 Wc) ∧ W.heap.size ≤ Wc.heap.size ∧
      ∃ cur' : Array Value, Wc.heap[g]? = some (.cells cur' 41 (0, 0)) ∧ cur'.size = cur.size ∧ (∀ j, j < k ∨ k + 3 ≤ j → cur'[j]? = cur[j]?) ∧ cur'[k]? = some a ∧ cur'[k + 1]? = some b ∧ cur'[k + 2]? = some c := by
  obtain ⟨a1, a2, a3, a4⟩ := set_row hg (k := k) (by omega) a
  obtain ⟨b1, b2, b3, b4⟩ := set_row a3 (k := k + 1) (by simp; omega) b
  obtain ⟨c1, c2, c3, c4⟩ := set_row b3 (k := k + 2) (by simp; omega) c
  refine ⟨_, _, _, rfl, rfl, rfl, a1, a2, b1, b2, c1, c2, fun B w0 hb hB => c4 _ _ (b4 _ _ (a4 _ _ hb hB) hB) hB, by simp [World.setCell], _, c3, by simp, fun j hj => ?_, ?_, ?_, ?_⟩
  · rw [Array.getElem?_setIfInBounds_ne (by omega), Array.getElem?_setIfInBounds_ne (by omega), Array.getElem?_setIfInBounds_ne (by omega)]
  · rw [Array.getElem?_setIfInBounds_ne (by omega), Array.getElem?_setIfInBounds_ne (by omega), Array.getElem?_setIfInBounds_self_of_lt (by omega)]
  · rw [Array.getElem?_setIfInBounds_ne (by omega), Array.getElem?_setIfInBounds_self_of_lt (by simp; omega)]
  · rw [Array.getElem?_setIfInBounds_self_of_lt (by simp; omega)]
theorem run_clear3 (w : World) (g o n c : Nat) (ty : TypeId) (cur : Array Value) (hn : 0 < n) (hg : w.heap[g]? = some (.cells cur 41 (0, 0))) (hl : o + n * 3 ≤ cur.size) :
    ∃ cur' : Array Value, (Builtin.clear_ #[22] ty #[.slice (some ⟨g, o, none⟩) n c]).run Try.prog w = .ok (.tuple #[]) (w.setRow g cur') ∧ cur'.size = cur.size ∧ ∀ k, k < o → cur'[k]? = cur[k]? := by
  obtain ⟨i0, hi, hz0, hz1, hz2⟩ := info41
  obtain ⟨Z, hZ⟩ : ∃ Z, (Builtin.zeroCells (Value.agg #[.string ⟨#[]⟩, .string ⟨#[]⟩, .int .i64 0]).cells n).toList = Z := ⟨_, rfl⟩
  have hZl : Z.length = n * 3 := by rw [← hZ]; simp [Builtin.zeroCells, Value.cells]
  have hZ1 : ∀ u ∈ Z, u.oneCell' = true := by
    intro u hu
    rw [← hZ] at hu
    simp only [Builtin.zeroCells, Array.toList_map, List.mem_map, Value.cells] at hu
    obtain ⟨i, _, rfl⟩ := hu
    have : i % (#[Value.string ⟨#[]⟩, .string ⟨#[]⟩, .int .i64 0] : Array Value).size < 3 := Nat.mod_lt _ (by simp)
    generalize i % (#[Value.string ⟨#[]⟩, .string ⟨#[]⟩, .int .i64 0] : Array Value).size = r at *
    match r, this with
    | 0, _ => rfl
    | 1, _ => rfl
    | 2, _ => rfl
  have hst := run_storeCells_at Try.prog g o 41 Z 0 cur w hg (by omega) hZ1
  have hv : ∀ w, (zeroValue 41).run Try.prog w = .ok (.agg #[.string ⟨#[]⟩, .string ⟨#[]⟩, .int .i64 0]) w := fun w => by simp [zeroValue, typeInfo, hi, hz0]
  obtain ⟨m, rfl⟩ : ∃ m, n = m + 1 := ⟨n - 1, by omega⟩
  refine ⟨_, by simp [Builtin.clear_, run_underlying Try.underlying22, hv, hZ, hst]; rfl, ?_, ?_⟩
  · simp; omega
  · intro k hk
    have h1 : k < (cur.toList.take o).length := by simp; omega
    simp only [List.getElem?_toArray, Nat.add_zero, List.append_assoc]
    rw [List.getElem?_append_left h1, List.getElem?_take_of_lt hk]; simp
end Go.Proofs.Ytedjfbkpebmggaa
