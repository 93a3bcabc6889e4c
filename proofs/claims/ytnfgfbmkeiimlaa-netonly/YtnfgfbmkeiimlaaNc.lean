/- What the reference's Check, refuse, miss, Same and has answer. -/
import Derived.Test.YtnfgfbmkeiimlaaNb
namespace Go.Proofs.Ytnfgfbmkeiimlaa
open Go.Shelf Go.RowKit Go.Lib Go.Sort
set_option linter.unusedVariables false
set_option linter.unusedSimpArgs false
attribute [local go_sem ↓] Go.wp_at_zero Go.wp_at_succ
theorem eql_core (f f' t t' : Int) (x x' : ByteArray) (w : World) :
    (binOp .eql 30 (.agg #[.int .i64 f, .int .i64 t, .string x]) (.agg #[.int .i64 f', .int .i64 t', .string x'])).run Try.prog w = .ok (.bool (eqP ⟨f, t, x⟩ ⟨f', t', x'⟩)) w := by
  have hS : Try.prog.underlying 30 = some (.struct (Try.prog.fieldsOf 30)) := by kernel_rfl
  have hp : Try.prog.stoodInHeld 30 = false := by kernel_rfl
  have u3 := Try.underlying3; have a3 := Try.isAgg3; have z3 := Try.sizeOf3
  have u9 := Try.underlying9; have a9 := Try.isAgg9; have z9 := Try.sizeOf9
  unfold eqP eqB
  rw [run_eql_struct, show (10000 : Nat) = 9999 + 1 from rfl, run_equalIn_struct w 9999 30 _ _ hS hp]
  simp only [Program.fieldsOf, Try.underlying30]
  go_simp
  by_cases h1 : f = f' <;> by_cases h2 : t = t' <;> by_cases h3 : x.toList = x'.toList <;> simp [h1, h2, h3]
theorem neq_core (f f' t t' : Int) (x x' : ByteArray) (w : World) :
    (binOp .neq 30 (.agg #[.int .i64 f, .int .i64 t, .string x]) (.agg #[.int .i64 f', .int .i64 t', .string x'])).run Try.prog w = .ok (.bool (!eqP ⟨f, t, x⟩ ⟨f', t', x'⟩)) w := by
  have h := eql_core f f' t t' x x' w
  simp only [binOp, Sem.run_bind] at h ⊢
  generalize (Op.equal 30 (.agg #[.int .i64 f, .int .i64 t, .string x]) (.agg #[.int .i64 f', .int .i64 t', .string x'])).run Try.prog w = r at h ⊢
  cases r <;> simp_all
theorem below_drewN {B : Nat} {a w : World} (h : Below B a w) (n : Nat) : Below B a (w.drewN n) := ⟨h.os, h.tape, h.output, h.size, h.block⟩
set_option maxRecDepth 100000 in
set_option maxHeartbeats 4000000 in
theorem Same_eq (p q : Option Addr) (c c' : Nat) (fs : List PK) (w : World) (h : PsL w (.slice p fs.length c) fs) (h' : PsL w (.slice q fs.length c') fs) :
    Calls Try.prog 17 #[.agg #[.slice p fs.length c], .agg #[.slice q fs.length c']] w fun e w' => e = .returned (.bool true) ∧ Below w.heap.size w w' := by
  obtain ⟨W0, hW0⟩ : ∃ W0, (w.alloc (.cells #[.slice p fs.length c] 24)).alloc (.cells #[.slice q fs.length c'] 24) = W0 := ⟨_, rfl⟩
  have hb0 : Below w.heap.size w W0 := by rw [← hW0]; exact two_below _ _ _
  have hs0 : W0.heap.size = w.heap.size + 2 := by rw [← hW0]; simp
  have g0 : W0.heap[w.heap.size]? = some (.cells #[.slice p fs.length c] 24 (0, 0)) := by rw [← hW0, heap_alloc_old _ _ (by simp)]; exact heap_alloc_new w _
  have g1 : W0.heap[w.heap.size + 1]? = some (.cells #[.slice q fs.length c'] 24 (0, 0)) := by
    rw [← hW0]
    have := heap_alloc_new (w.alloc (.cells #[.slice p fs.length c] 24)) (.cells #[.slice q fs.length c'] 24)
    simpa using this
  have HG : Hid (∀ W, Below W0.heap.size W0 W → W.cell? ⟨w.heap.size, 0, none⟩ = some (.slice p fs.length c) ∧ W.cell? ⟨w.heap.size + 1, 0, none⟩ = some (.slice q fs.length c')) := fun W hb =>
    ⟨cell_of_row (k := 0) (by rw [hb.block _ (by omega)]; exact g0) rfl, cell_of_row (k := 0) (by rw [hb.block _ (by omega)]; exact g1) rfl⟩
  have x0 := cell_of_row (k := 0) g0 rfl
  have y0 := cell_of_row (k := 0) g1 rfl
  have hmany := h.many
  obtain ⟨_, _, e1, _, _, _, _, _, hp⟩ := h.below hb0
  obtain ⟨_, _, e2, _, _, _, _, _, hq⟩ := h'.below hb0
  simp only [Value.slice.injEq, true_and] at e1 e2
  obtain ⟨rfl, rfl⟩ := e1
  obtain ⟨rfl, rfl⟩ := e2
  have HP : Hid _ := hp
  have HQ : Hid _ := hq
  have HB0 : Hid (Below w.heap.size w W0) := hb0
  have t3 : ((fs.length : Int) != (fs.length : Int)) = false := by simp
  clear hp hq h h' hb0 hs0 g0 g1
  go_enter Try.func17, Try.ntmps17
  go_wp2_with fail
  go_loopg [16] fs.length (fun gf s30 wx => ∃ i : Nat, s30 = .int .i64 i ∧ i ≤ fs.length ∧ fs.length ≤ i + gf ∧ Hid (Below W0.heap.size W0 wx))
  case atStart => exact ⟨0, rfl, by omega, by omega, Below.refl _ _⟩
  case round =>
    obtain ⟨i, rfl, hi1, hgf, HB⟩ := hrel
    by_cases hi : i < fs.length
    · obtain ⟨g', rfl⟩ : ∃ g', gk = g' + 1 := ⟨gk - 1, by omega⟩
      obtain ⟨b, o, rfl, hlt, hc⟩ := HP.out (by omega)
      obtain ⟨b', o', rfl, hlt', hc'⟩ := HQ.out (by omega)
      obtain ⟨c0, c1, c2⟩ := (hc.below hlt HB.out) i hi
      obtain ⟨k0, k1, k2⟩ := (hc'.below hlt' HB.out) i hi
      obtain ⟨m0, m1⟩ := HG.out wr HB.out
      obtain ⟨⟨n, d, y⟩, hf⟩ : ∃ f, fs[i] = f := ⟨_, rfl⟩
      rw [hf] at c0 c1 c2 k0 k1 k2
      simp only at c0 c1 c2 k0 k1 k2
      have hne : ∀ W, (binOp .neq 30 (.agg #[.int .i64 n, .int .i64 d, .string y]) (.agg #[.int .i64 n, .int .i64 d, .string y])).run Try.prog W = .ok (.bool false) W := fun W => by
        rw [neq_core, eqP_self]; rfl
      have z0 : (0 : Int) ≤ (i : Int) := by omega
      have z1 : (i : Int) < (fs.length : Int) := by omega
      have hbw := HB.out
      clear hc hc' hf HB
      go_wp2_with fail
      go_quiet (fail)
      go_wp2_with fail
      go_roundg g'
      case measure => omega
      case rel => exact ⟨i + 1, by go_num, by omega, by omega, below_drewN hbw _⟩
    · have z1 : ¬ (i : Int) < (fs.length : Int) := by omega
      have HB2 : Hid (Below w.heap.size w wr) := HB0.out.trans (HB.out.mono HB0.out.size)
      clear HB
      go_wp2_with fail
      go_ret
      exact ⟨rfl, HB2.out⟩
def hasP (fs : List PK) (p : PK) : Bool := fs.any fun x => eqP x p
theorem hasP_step (fs : List PK) (p : PK) (i : Nat) (h : i < fs.length) (h0 : hasP (fs.take i) p = false) : hasP (fs.take (i + 1)) p = eqP fs[i] p := by
  unfold hasP at h0 ⊢; rw [List.take_succ_eq_append_getElem h, List.any_append, h0]; simp
theorem hasP_of (fs : List PK) (p : PK) (i : Nat) (h : i < fs.length) (h0 : eqP fs[i] p = true) : hasP fs p = true := List.any_eq_true.2 ⟨_, List.getElem_mem h, h0⟩
set_option maxRecDepth 100000 in
set_option maxHeartbeats 4000000 in
theorem has_any (v : Value) (fs : List PK) (p : PK) (w : World) (h : PsL w v fs) :
    Calls Try.prog 20 #[v, .agg #[.int .i64 p.f, .int .i64 p.t, .string p.x]] w fun e w' => e = .returned (.bool (hasP fs p)) ∧ Below w.heap.size w w' := by
  obtain ⟨pf, pt, px⟩ := p
  obtain ⟨W0, hW0⟩ : ∃ W0, w.alloc (.cells #[.int .i64 pf, .int .i64 pt, .string px] 30) = W0 := ⟨_, rfl⟩
  have hb0 : Below w.heap.size w W0 := by rw [← hW0]; exact one_below _ _
  have hs0 : W0.heap.size = w.heap.size + 1 := by rw [← hW0]; simp
  have g0 : W0.heap[w.heap.size]? = some (.cells #[.int .i64 pf, .int .i64 pt, .string px] 30 (0, 0)) := by rw [← hW0]; exact heap_alloc_new w _
  have HG : Hid (∀ W, Below W0.heap.size W0 W → W.cell? ⟨w.heap.size, 0, none⟩ = some (.int .i64 pf) ∧ W.cell? ⟨w.heap.size, 1, none⟩ = some (.int .i64 pt) ∧ W.cell? ⟨w.heap.size, 2, none⟩ = some (.string px)) := fun W hb => by
    have g : W.heap[w.heap.size]? = some (.cells #[.int .i64 pf, .int .i64 pt, .string px] 30 (0, 0)) := by rw [hb.block _ (by omega)]; exact g0
    exact ⟨cell_of_row g rfl, cell_of_row g rfl, cell_of_row g rfl⟩
  have HB0 : Hid (Below w.heap.size w W0) := hb0
  obtain ⟨q, c, rfl, hlc, hcc, hl, hs, hn, hp⟩ := h.below hb0
  have HP : Hid (0 < fs.length → ∃ b o, q = some ⟨b, o, none⟩ ∧ b < W0.heap.size ∧ PsIs W0 b o fs) := hp
  clear hp hs hn hcc h hb0 hs0 g0
  go_enter Try.func20, Try.ntmps20
  go_wp2_with fail
  go_loopg [9] fs.length (fun gf s8 wx => ∃ i : Nat, s8 = .int .i64 i ∧ i ≤ fs.length ∧ fs.length ≤ i + gf ∧ Hid (Below W0.heap.size W0 wx) ∧ Hid (hasP (fs.take i) ⟨pf, pt, px⟩ = false))
  case atStart => exact ⟨0, rfl, by omega, by omega, Below.refl _ _, (show _ = _ from rfl)⟩
  case round =>
    obtain ⟨i, rfl, hi1, hgf, HB, HT⟩ := hrel
    by_cases hi : i < fs.length
    · obtain ⟨g', rfl⟩ : ∃ g', gk = g' + 1 := ⟨gk - 1, by omega⟩
      obtain ⟨b, o, rfl, hlt, hc⟩ := HP.out (by omega)
      obtain ⟨c0, c1, c2⟩ := (hc.below hlt HB.out) i hi
      have hst := hasP_step fs ⟨pf, pt, px⟩ i hi HT.out
      have hof := hasP_of fs ⟨pf, pt, px⟩ i hi
      obtain ⟨⟨n, d, y⟩, hf⟩ : ∃ f, fs[i] = f := ⟨_, rfl⟩
      rw [hf] at c0 c1 c2 hst hof
      simp only at c0 c1 c2
      have z0 : (0 : Int) ≤ (i : Int) := by omega
      have z1 : (i : Int) < (fs.length : Int) := by omega
      have hne := eql_core n pf d pt y px
      have HB2 : Hid (Below W0.heap.size W0 (wr.alloc (.cells #[.int .i64 n, .int .i64 d, .string y] 30))) := HB.out.alloc HB.out.size _
      have HBW : Hid (Below w.heap.size w (wr.alloc (.cells #[.int .i64 n, .int .i64 d, .string y] 30))) := HB0.out.trans (HB2.out.mono HB0.out.size)
      obtain ⟨m0, m1, m2⟩ := HG.out _ HB2.out
      clear hc hf
      cases ha : eqP ⟨n, d, y⟩ ⟨pf, pt, px⟩
      · rw [ha] at hst
        have HT2 : Hid (hasP (fs.take (i + 1)) ⟨pf, pt, px⟩ = false) := hst
        simp only [ha] at hne
        clear hst hof ha HT
        go_wp2_with fail
        go_roundg g'
        case measure => omega
        case rel => exact ⟨i + 1, by go_num, by omega, by omega, HB2, HT2⟩
      · have HF : Hid (hasP fs ⟨pf, pt, px⟩ = true) := hof ha
        simp only [ha] at hne
        clear hst hof ha HT
        go_wp2_with fail
        go_ret
        exact ⟨by rw [HF.out]; rfl, HBW.out⟩
    · have z1 : ¬ (i : Int) < (fs.length : Int) := by omega
      have HF : Hid (hasP fs ⟨pf, pt, px⟩ = false) := by have := HT.out; rwa [List.take_of_length_le (by omega)] at this
      have HBW : Hid (Below w.heap.size w wr) := HB0.out.trans (HB.out.mono HB0.out.size)
      clear HT
      go_wp2_with fail
      go_ret
      exact ⟨by rw [HF.out]; rfl, HBW.out⟩
end Go.Proofs.Ytnfgfbmkeiimlaa
