/- Two disks are one or not: what the reference's Same answers. -/
import Derived.Test.YtedjfbkpebmggaaDu
namespace Go.Proofs.Ytedjfbkpebmggaa
open Go.Shelf Go.RowKit Go.Lib Go.Sort
set_option linter.unusedVariables false
set_option linter.unusedSimpArgs false
attribute [local go_sem ↓] Go.wp_at_zero Go.wp_at_succ
def sameF (a b : DF) : Bool := eqB a.n b.n && eqB a.d b.d && a.y == b.y
theorem sameF_iff {a b : DF} : sameF a b = true ↔ a = b := by
  obtain ⟨n, d, y⟩ := a
  obtain ⟨n', d', y'⟩ := b
  unfold sameF
  rw [Bool.and_eq_true, Bool.and_eq_true, eqB_iff, eqB_iff, beq_iff_eq]
  constructor
  · rintro ⟨⟨rfl, rfl⟩, rfl⟩; rfl
  · intro h; injection h with h1 h2 h3; exact ⟨⟨h1, h2⟩, h3⟩
theorem eql_core (n n' d d' : ByteArray) (y y' : Int) (w : World) :
    (binOp .eql 41 (.agg #[.string n, .string d, .int .i64 y]) (.agg #[.string n', .string d', .int .i64 y'])).run Try.prog w = .ok (.bool (sameF ⟨n, d, y⟩ ⟨n', d', y'⟩)) w := by
  have hS : Try.prog.underlying 41 = some (.struct (Try.prog.fieldsOf 41)) := by kernel_rfl
  have hp : Try.prog.stoodInHeld 41 = false := by kernel_rfl
  have u3 := Try.underlying3; have a3 := Try.isAgg3; have z3 := Try.sizeOf3
  have u9 := Try.underlying9; have a9 := Try.isAgg9; have z9 := Try.sizeOf9
  unfold sameF eqB
  rw [run_eql_struct, show (10000 : Nat) = 9999 + 1 from rfl, run_equalIn_struct w 9999 41 _ _ hS hp]
  simp only [Program.fieldsOf, Try.underlying41]
  go_simp
  by_cases h1 : n.toList = n'.toList <;> by_cases h2 : d.toList = d'.toList <;> by_cases h3 : y = y' <;> simp [h1, h2, h3]
theorem neq_core (n n' d d' : ByteArray) (y y' : Int) (w : World) :
    (binOp .neq 41 (.agg #[.string n, .string d, .int .i64 y]) (.agg #[.string n', .string d', .int .i64 y'])).run Try.prog w = .ok (.bool (!sameF ⟨n, d, y⟩ ⟨n', d', y'⟩)) w := by
  have h := eql_core n n' d d' y y' w
  simp only [binOp, Sem.run_bind] at h ⊢
  generalize (Op.equal 41 (.agg #[.string n, .string d, .int .i64 y]) (.agg #[.string n', .string d', .int .i64 y'])).run Try.prog w = r at h ⊢
  cases r <;> simp_all
theorem below_drewN {B : Nat} {a w : World} (h : Below B a w) (n : Nat) : Below B a (w.drewN n) := ⟨h.os, h.tape, h.output, h.size, h.block⟩
set_option maxRecDepth 100000 in
set_option maxHeartbeats 4000000 in
theorem Same_eq (p q : Option Addr) (c c' : Nat) (dn : Bool) (fu : Int) (fs : List DF) (w : World) (h : FsL w (.slice p fs.length c) fs) (h' : FsL w (.slice q fs.length c') fs) :
    Calls Try.prog 17 #[.agg #[.slice p fs.length c, .bool dn, .int .i64 fu], .agg #[.slice q fs.length c', .bool dn, .int .i64 fu]] w fun e w' => e = .returned (.bool true) ∧ Below w.heap.size w w' := by
  obtain ⟨W0, hW0⟩ : ∃ W0, (w.alloc (.cells #[.slice p fs.length c, .bool dn, .int .i64 fu] 24)).alloc (.cells #[.slice q fs.length c', .bool dn, .int .i64 fu] 24) = W0 := ⟨_, rfl⟩
  have hb0 : Below w.heap.size w W0 := by rw [← hW0]; exact two_below _ _ _
  have hs0 : W0.heap.size = w.heap.size + 2 := by rw [← hW0]; simp
  have g0 : W0.heap[w.heap.size]? = some (.cells #[.slice p fs.length c, .bool dn, .int .i64 fu] 24 (0, 0)) := by rw [← hW0, heap_alloc_old _ _ (by simp)]; exact heap_alloc_new w _
  have g1 : W0.heap[w.heap.size + 1]? = some (.cells #[.slice q fs.length c', .bool dn, .int .i64 fu] 24 (0, 0)) := by
    rw [← hW0]
    have := heap_alloc_new (w.alloc (.cells #[.slice p fs.length c, .bool dn, .int .i64 fu] 24)) (.cells #[.slice q fs.length c', .bool dn, .int .i64 fu] 24)
    simpa using this
  have HG : Hid (∀ W, Below W0.heap.size W0 W → W.cell? ⟨w.heap.size, 0, none⟩ = some (.slice p fs.length c) ∧ W.cell? ⟨w.heap.size + 1, 0, none⟩ = some (.slice q fs.length c')) := fun W hb =>
    ⟨cell_of_row (k := 0) (by rw [hb.block _ (by omega)]; exact g0) rfl, cell_of_row (k := 0) (by rw [hb.block _ (by omega)]; exact g1) rfl⟩
  have x0 := cell_of_row (k := 0) g0 rfl
  have x1 := cell_of_row (k := 1) g0 rfl
  have x2 := cell_of_row (k := 2) g0 rfl
  have y0 := cell_of_row (k := 0) g1 rfl
  have y1 := cell_of_row (k := 1) g1 rfl
  have y2 := cell_of_row (k := 2) g1 rfl
  have hmany := h.many
  obtain ⟨_, _, e1, _, _, hp⟩ := h.below hb0
  obtain ⟨_, _, e2, _, _, hq⟩ := h'.below hb0
  simp only [Value.slice.injEq, true_and] at e1 e2
  obtain ⟨rfl, rfl⟩ := e1
  obtain ⟨rfl, rfl⟩ := e2
  have HP : Hid _ := hp
  have HQ : Hid _ := hq
  have HB0 : Hid (Below w.heap.size w W0) := hb0
  have t1 : (dn != dn) = false := by simp
  have t2 : (fu != fu) = false := by simp
  have t3 : ((fs.length : Int) != (fs.length : Int)) = false := by simp
  clear hp hq h h' hb0 hs0 g0 g1
  go_enter Try.func17, Try.ntmps17
  go_wp2_with fail
  go_loopg [30] fs.length (fun gf s30 wx => ∃ i : Nat, s30 = .int .i64 i ∧ i ≤ fs.length ∧ fs.length ≤ i + gf ∧ Hid (Below W0.heap.size W0 wx))
  case atStart => exact ⟨0, rfl, by omega, by omega, Below.refl _ _⟩
  case round =>
    obtain ⟨i, rfl, hi1, hgf, HB⟩ := hrel
    by_cases hi : i < fs.length
    · obtain ⟨g', rfl⟩ : ∃ g', gk = g' + 1 := ⟨gk - 1, by omega⟩
      obtain ⟨b, o, rfl, hlt, hc⟩ := HP.out (by omega)
      obtain ⟨b', o', rfl, hlt', hc'⟩ := HQ.out (by omega)
      obtain ⟨c0, c1, c2⟩ := (hc.below hlt HB.out) i hi
      obtain ⟨k0, k1, k2⟩ := (hc'.below hlt' HB.out) i hi
      obtain ⟨m0, m1⟩ := HG.out wr HB.out
      obtain ⟨⟨n, d, y⟩, hf⟩ : ∃ f, fs[i] = f := ⟨_, rfl⟩
      rw [hf] at c0 c1 c2 k0 k1 k2
      simp only at c0 c1 c2 k0 k1 k2
      have hne : ∀ W, (binOp .neq 41 (.agg #[.string n, .string d, .int .i64 y]) (.agg #[.string n, .string d, .int .i64 y])).run Try.prog W = .ok (.bool false) W := fun W => by
        rw [neq_core, sameF_iff.2 rfl]; rfl
      have z0 : (0 : Int) ≤ (i : Int) := by omega
      have z1 : (i : Int) < (fs.length : Int) := by omega
      have hbw := HB.out
      clear hc hc' hf HB
      go_wp2_with fail
      go_quiet (fail)
      go_wp2_with fail
      go_roundg g'
      case measure => omega
      case rel => exact ⟨i + 1, by go_num, by omega, by omega, below_drewN hbw _⟩
    · have z1 : ¬ (i : Int) < (fs.length : Int) := by omega
      have HB2 : Hid (Below w.heap.size w wr) := HB0.out.trans (HB.out.mono HB0.out.size)
      clear HB
      go_wp2_with fail
      go_ret
      exact ⟨rfl, HB2.out⟩
end Go.Proofs.Ytedjfbkpebmggaa
