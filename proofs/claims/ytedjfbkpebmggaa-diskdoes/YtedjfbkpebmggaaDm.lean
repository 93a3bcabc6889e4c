/- Changes by their kind: what changesOf answers. -/
import Derived.Test.YtedjfbkpebmggaaDl
namespace Go.Proofs.Ytedjfbkpebmggaa
open Go.Shelf Go.RowKit Go.Lib Go.Sort
set_option linter.unusedVariables false
set_option linter.unusedSimpArgs false
attribute [local go_sem ↓] Go.wp_at_zero Go.wp_at_succ
theorem ck (b : Bool) (n : Nat) (k : Int) (W : World) : (Instr.checkKey b (n + 1) 25 (.int .u8 k)).run Try.prog W = .ok () W := by
  simp [Instr.checkKey, run_underlying Try.underlying25]
theorem map_ins (W : World) (r : Nat) (es : Array MapEntry) (clk : Nat) (k : Int) (v : Value) (hr : W.heap[r]? = some (.map es clk)) (hf : Instr.findNow (.int .u8) (.int .u8 k) es.toList 0 = some none) :
    ∃ W', (Instr.mapUpdate 60 (.map (some r)) (.int .u8 k) v).run Try.prog W = .ok () W' ∧ W'.heap[r]? = some (.map (es.push { key := .int .u8 k, val := v, born := clk }) (clk + 1)) ∧ (∀ B w0, Below B w0 W → B ≤ r → Below B w0 W') ∧ (∀ j, j ≠ r → W'.heap[j]? = W.heap[j]?) := by
  have hlt : r < W.heap.size := (Array.getElem?_eq_some_iff.1 hr).1
  have hck : (Instr.checkKey false 10000 25 (.int .u8 k)).run Try.prog W = .ok () W := ck false 9999 k W
  have hfk : (Instr.findKey 25 (.int .u8 k) es.toList).run Try.prog W = .ok none W := by
    simp [Instr.findKey, run_underlying Try.underlying25, hf]
  refine ⟨{ W with heap := W.heap.setIfInBounds r (.map (es.push { key := .int .u8 k, val := v, born := clk }) (clk + 1)) }, ?_, ?_, ?_, ?_⟩
  · have hgo : (getObj r).run Try.prog W = .ok (.map es clk) W := by simp [getObj, Sem.run, hr]
    have hso : ∀ o, (setObj r o).run Try.prog W = .ok () { W with heap := W.heap.setIfInBounds r o } := fun o => by simp only [setObj, Sem.run, hr]
    simp [Instr.mapUpdate, run_underlying Try.underlying60, hgo, hck, hfk, hso]
  · simp [hlt]
  · intro B w0 hb hB
    exact ⟨hb.os, hb.tape, hb.output, by simp; exact hb.size, fun j hj => by rw [Array.getElem?_setIfInBounds_ne (by omega)]; exact hb.block j hj⟩
  · intro j hj
    simp only [Array.getElem?_setIfInBounds_ne (Ne.symm hj)]
/-- The map of changes. -/
def chMap (c : Value) : Array MapEntry := #[{ key := .int .u8 1, val := .func (.func 39) #[c] #[], born := 0 }, { key := .int .u8 2, val := .func (.func 40) #[c] #[], born := 1 }, { key := .int .u8 3, val := .func (.func 41) #[c] #[], born := 2 }, { key := .int .u8 4, val := .func (.func 42) #[c] #[], born := 3 }]
theorem map_look (W : World) (r : Nat) (es : Array MapEntry) (clk : Nat) (k : Int) (hr : W.heap[r]? = some (.map es clk)) (he : es.isEmpty = false) (i : Nat) (v : Value) (hf : Instr.findNow (.int .u8) (.int .u8 k) es.toList 0 = some (some (i, v))) :
    (Instr.lookup 60 (.map (some r)) (.int .u8 k) true).run Try.prog W = .ok (.tuple #[v, .bool true]) W := by
  have hck : (Instr.checkKey false 10000 25 (.int .u8 k)).run Try.prog W = .ok () W := ck false 9999 k W
  have hfk : (Instr.findKey 25 (.int .u8 k) es.toList).run Try.prog W = .ok (some (i, v)) W := by
    simp [Instr.findKey, run_underlying Try.underlying25, hf]
  have hgo : (getObj r).run Try.prog W = .ok (.map es clk) W := by simp [getObj, Sem.run, hr]
  simp [Instr.lookup, run_underlying Try.underlying60, hgo, he, hck, hfk]
theorem map_none (W : World) (r : Nat) (es : Array MapEntry) (clk : Nat) (k : Int) (hr : W.heap[r]? = some (.map es clk)) (he : es.isEmpty = false) (hf : Instr.findNow (.int .u8) (.int .u8 k) es.toList 0 = some none) :
    ∃ v, (Instr.lookup 60 (.map (some r)) (.int .u8 k) true).run Try.prog W = .ok (.tuple #[v, .bool false]) W := by
  have hck : (Instr.checkKey false 10000 25 (.int .u8 k)).run Try.prog W = .ok () W := ck false 9999 k W
  have hfk : (Instr.findKey 25 (.int .u8 k) es.toList).run Try.prog W = .ok none W := by
    simp [Instr.findKey, run_underlying Try.underlying25, hf]
  have hgo : (getObj r).run Try.prog W = .ok (.map es clk) W := by simp [getObj, Sem.run, hr]
  have hz := Try.zeroValue58 W
  exact ⟨_, by simp [Instr.lookup, run_underlying Try.underlying60, hgo, he, hck, hfk, hz]; rfl⟩
/-- What is looked up in it. -/
def LookC (W : World) (m : Value) (c : Value) (k : Int) : Prop :=
  (k = 1 → (Instr.lookup 60 m (.int .u8 k) true).run Try.prog W = .ok (.tuple #[.func (.func 39) #[c] #[], .bool true]) W) ∧
  (k = 2 → (Instr.lookup 60 m (.int .u8 k) true).run Try.prog W = .ok (.tuple #[.func (.func 40) #[c] #[], .bool true]) W) ∧
  (k = 3 → (Instr.lookup 60 m (.int .u8 k) true).run Try.prog W = .ok (.tuple #[.func (.func 41) #[c] #[], .bool true]) W) ∧
  (k = 4 → (Instr.lookup 60 m (.int .u8 k) true).run Try.prog W = .ok (.tuple #[.func (.func 42) #[c] #[], .bool true]) W) ∧
  (k ≠ 1 → k ≠ 2 → k ≠ 3 → k ≠ 4 → ∃ v, (Instr.lookup 60 m (.int .u8 k) true).run Try.prog W = .ok (.tuple #[v, .bool false]) W)
theorem look_of {W : World} {r : Nat} {c : Value} {k : Int} (hr : W.heap[r]? = some (.map (chMap c) 4)) : LookC W (.map (some r)) c k := by
  refine ⟨?_, ?_, ?_, ?_, ?_⟩
  · rintro rfl; exact map_look W r _ 4 1 hr rfl 0 _ rfl
  · rintro rfl; exact map_look W r _ 4 2 hr rfl 1 _ rfl
  · rintro rfl; exact map_look W r _ 4 3 hr rfl 2 _ rfl
  · rintro rfl; exact map_look W r _ 4 4 hr rfl 3 _ rfl
  · intro h1 h2 h3 h4
    refine map_none W r _ 4 k hr rfl ?_
    have e1 : (k == 1) = false := beq_eq_false_iff_ne.2 h1
    have e2 : (k == 2) = false := beq_eq_false_iff_ne.2 h2
    have e3 : (k == 3) = false := beq_eq_false_iff_ne.2 h3
    have e4 : (k == 4) = false := beq_eq_false_iff_ne.2 h4
    simp [chMap, Instr.findNow, Instr.sameNow, e1, e2, e3, e4]
set_option maxRecDepth 100000 in
set_option maxHeartbeats 2000000 in
theorem changesOf_any (p : Option Addr) (len c : Nat) (kk : Int) (nm tt dt : ByteArray) (w : World) :
    Calls Try.prog 33 #[.slice p len c, .agg #[.int .u8 kk, .string nm, .string tt, .string dt]] w fun e w' => e = .returned (.map (some (w.heap.size + 2))) ∧ w'.heap[w.heap.size + 2]? = some (.map (chMap (.agg #[.slice p len c, .int .u8 kk, .string nm, .string tt, .string dt])) 4) ∧ Below w.heap.size w w' := by
  obtain ⟨W0, hW0⟩ : ∃ W0, ((w.alloc (.cells #[.int .u8 kk, .string nm, .string tt, .string dt] 27)).alloc (.cells #[.slice p len c, .int .u8 kk, .string nm, .string tt, .string dt] 69)) = W0 := ⟨_, rfl⟩
  have hs0 : W0.heap.size = w.heap.size + 2 := by rw [← hW0]; simp
  have hg0 : W0.heap[w.heap.size + 1]? = some (.cells #[.slice p len c, .int .u8 kk, .string nm, .string tt, .string dt] 69 (0, 0)) := by
    rw [← hW0]
    have := heap_alloc_new (w.alloc (.cells #[.int .u8 kk, .string nm, .string tt, .string dt] 27)) (.cells #[.slice p len c, .int .u8 kk, .string nm, .string tt, .string dt] 69)
    simpa using this
  have hb0 : Below w.heap.size w W0 := by rw [← hW0]; exact two_below _ _ _
  obtain ⟨W1, hW1⟩ : ∃ W1, W0.alloc (.map #[] 0) = W1 := ⟨_, rfl⟩
  have hr1 : W1.heap[w.heap.size + 2]? = some (.map #[] 0) := by rw [← hW1, ← hs0]; exact heap_alloc_new W0 _
  have hg1 : W1.heap[w.heap.size + 1]? = some (.cells #[.slice p len c, .int .u8 kk, .string nm, .string tt, .string dt] 69 (0, 0)) := by rw [← hW1, heap_alloc_old W0 _ (by omega)]; exact hg0
  have hb1 : Below w.heap.size w W1 := by rw [← hW1]; exact hb0.alloc hb0.size _
  have hmm := @run_makeMap Try.prog
  obtain ⟨W2, r2, hr2, b2, o2⟩ := map_ins W1 (w.heap.size + 2) _ _ 1 (.func (.func 39) #[.agg #[.slice p len c, .int .u8 kk, .string nm, .string tt, .string dt]] #[]) hr1 rfl
  obtain ⟨W3, r3, hr3, b3, o3⟩ := map_ins W2 (w.heap.size + 2) _ _ 2 (.func (.func 40) #[.agg #[.slice p len c, .int .u8 kk, .string nm, .string tt, .string dt]] #[]) hr2 rfl
  obtain ⟨W4, r4, hr4, b4, o4⟩ := map_ins W3 (w.heap.size + 2) _ _ 3 (.func (.func 41) #[.agg #[.slice p len c, .int .u8 kk, .string nm, .string tt, .string dt]] #[]) hr3 rfl
  obtain ⟨W5, r5, hr5, b5, o5⟩ := map_ins W4 (w.heap.size + 2) _ _ 4 (.func (.func 42) #[.agg #[.slice p len c, .int .u8 kk, .string nm, .string tt, .string dt]] #[]) hr4 rfl
  have hg2 := (o2 (w.heap.size + 1) (by omega)).trans hg1
  have hg3 := (o3 (w.heap.size + 1) (by omega)).trans hg2
  have hg4 := (o4 (w.heap.size + 1) (by omega)).trans hg3
  have cellsOf : ∀ W : World, W.heap[w.heap.size + 1]? = some (.cells #[.slice p len c, .int .u8 kk, .string nm, .string tt, .string dt] 69 (0, 0)) → W.cell? ⟨w.heap.size + 1, 0, none⟩ = some (.slice p len c) ∧ W.cell? ⟨w.heap.size + 1, 1, none⟩ = some (.int .u8 kk) ∧ W.cell? ⟨w.heap.size + 1, 2, none⟩ = some (.string nm) ∧ W.cell? ⟨w.heap.size + 1, 3, none⟩ = some (.string tt) ∧ W.cell? ⟨w.heap.size + 1, 4, none⟩ = some (.string dt) := fun W h => ⟨cell_of_row h rfl, cell_of_row h rfl, cell_of_row h rfl, cell_of_row h rfl, cell_of_row h rfl⟩
  obtain ⟨x10, x11, x12, x13, x14⟩ := cellsOf W1 hg1
  obtain ⟨x20, x21, x22, x23, x24⟩ := cellsOf W2 hg2
  obtain ⟨x30, x31, x32, x33, x34⟩ := cellsOf W3 hg3
  obtain ⟨x40, x41, x42, x43, x44⟩ := cellsOf W4 hg4
  have HB : Hid (Below w.heap.size w W5) := b5 _ _ (b4 _ _ (b3 _ _ (b2 _ _ hb1 (by omega)) (by omega)) (by omega)) (by omega)
  have HR : Hid (W5.heap[w.heap.size + 2]? = some (.map (chMap (.agg #[.slice p len c, .int .u8 kk, .string nm, .string tt, .string dt])) 4)) := hr5
  have hms : (Instr.makeMap 60 none).run Try.prog W0 = .ok (.map (some (w.heap.size + 2))) W1 := by
    have := @run_makeMap Try.prog 60 W0
    rw [hs0, hW1] at this
    exact this
  clear hmm b2 b3 b4 b5 o2 o3 o4 o5 hg0 hg1 hg2 hg3 hg4 cellsOf hr1 hr2 hr3 hr4 hr5 hb0 hb1 hW1 hs0
  go_enter Try.func33, Try.ntmps33
  go_wp2_with fail
  go_ret
  exact ⟨rfl, HR.out, HB.out⟩
end Go.Proofs.Ytedjfbkpebmggaa
