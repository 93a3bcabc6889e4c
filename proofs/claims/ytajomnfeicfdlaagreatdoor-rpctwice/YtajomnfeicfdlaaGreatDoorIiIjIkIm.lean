/- What the reference's Has, SameWindow and CheckWindow answer. -/
import Derived.Test.YtajomnfeicfdlaaGreatDoorIaIbIcIdIeIfIgIhIl
import Derived.Lib.AppendZeros
namespace Go.Proofs.YtajomnfeicfdlaaGreatDoor
open Go.Shelf Go.RowKit Go.Lib
set_option linter.unusedVariables false
set_option linter.unusedSimpArgs false
attribute [local go_sem ↓] Go.wp_at_zero Go.wp_at_succ
set_option maxRecDepth 10000 in
theorem neq_qid (a b a' b' : Int) (w : World) : (binOp .neq 27 (.agg #[.int .u64 a, .int .u64 b]) (.agg #[.int .u64 a', .int .u64 b'])).run Tryz.prog w = .ok (.bool (!decide ((a, b) = (a', b')))) w := by
 have h := eql_qid a b a' b' w
 simp only [binOp, Sem.run_bind] at h ⊢
 generalize (Op.equal 27 (.agg #[.int .u64 a, .int .u64 b]) (.agg #[.int .u64 a', .int .u64 b'])).run Tryz.prog w = r at h ⊢
 cases r <;> simp_all
set_option maxRecDepth 100000 in
set_option maxHeartbeats 4000000 in
theorem refHas_any (y : Int × Int) (v : Value) (xs : List (Int × Int)) (K : Nat → Prop) (w : World) (h : ListIs rQid 2 16 K w v xs) (hK : ∀ b, K b → b < w.heap.size) :
  Calls Tryz.prog 14 #[.agg #[v], .agg #[.int .u64 y.1, .int .u64 y.2]] w fun e w' => e = .returned (.bool (decide (y ∈ xs))) ∧ Below w.heap.size w w' := by
 obtain ⟨q0, c0, rfl, hby, hp⟩ := h
 obtain ⟨y1, y2⟩ := y
 have HP : Hid (0 < xs.length → ∃ b o, q0 = some ⟨b, o, none⟩ ∧ K b ∧ ∀ (j : Nat) (h : j < xs.length), ∃ cs, cs.length = 2 ∧ (∀ (i : Nat) (u : Value), cs[i]? = some u → w.cell? ⟨b, o + j * 2 + i, none⟩ = some u) ∧ rQid K w cs xs[j]) := hp
 have HKK : Hid (∀ b, K b → b < w.heap.size) := hK
 have hx63 : xs.length ≤ 140737488355328 := by omega
 obtain ⟨W0, hW0⟩ : ∃ W0, (w.alloc (.cells #[.slice q0 xs.length c0] 24)).alloc (.cells #[.int .u64 y1, .int .u64 y2] 27) = W0 := ⟨_, rfl⟩
 have hb0 : Below w.heap.size w W0 := by rw [← hW0]; exact ((Below.refl _ _).alloc (Nat.le_refl _) _).alloc (by simp) _
 have hg1 : BoxQ W0 (w.heap.size + 1) (y1, y2) := by rw [← hW0]; simpa [BoxQ] using heap_alloc_new (w.alloc (.cells #[.slice q0 xs.length c0] 24)) (.cells #[.int .u64 y1, .int .u64 y2] 27)
 have hg0 : W0.heap[w.heap.size]? = some (.cells #[.slice q0 xs.length c0] 24 (0, 0)) := by
  rw [← hW0, heap_alloc_old _ _ (by simp)]; exact heap_alloc_new w _
 have HB0 : Hid (Below w.heap.size w W0) := hb0
 have HG0 : Hid (BoxQ W0 (w.heap.size + 1) (y1, y2)) := hg1
 have k1 := cell_of_row (k := 0) hg0 rfl
 clear hp hK hby hb0 hg1 hg0
 go_enter Tryz.func14, Tryz.ntmps14
 go_wp2_with fail
 go_loopg [10] xs.length (fun gf s8 wx => ∃ (i : Nat), s8 = .int .i64 i ∧ i ≤ xs.length ∧ xs.length ≤ i + gf ∧ Hid (Below w.heap.size w wx) ∧ Hid (BoxQ wx (w.heap.size + 1) (y1, y2)) ∧ Hid ((y1, y2) ∉ xs.take i))
 case atStart => exact ⟨0, rfl, by omega, by omega, HB0, HG0, fun hx => by simp at hx⟩
 case round =>
  obtain ⟨i, rfl, hi1, hgf, HB, HG, HN⟩ := hrel
  by_cases hi : i < xs.length
  ·obtain ⟨g', rfl⟩ : ∃ g', gk = g' + 1 := ⟨gk - 1, by omega⟩
   obtain ⟨b, o, rfl, hKb, hc⟩ := HP.out (by omega)
   obtain ⟨cs, hcl, hcell, hrel1⟩ := hc i hi
   obtain ⟨⟨x1, x2⟩, hy⟩ : ∃ y, xs[i] = y := ⟨_, rfl⟩
   have HTK : Hid (xs.take (i + 1) = xs.take i ++ [(x1, x2)]) := by show _ = _; rw [← hy]; exact List.take_succ_eq_append_getElem hi
   have HME : Hid ((x1, x2) ∈ xs) := by show _ ∈ _; rw [← hy]; exact List.getElem_mem hi
   rw [hy] at hrel1
   have e := hrel1
   unfold rQid at e
   subst e
   have k0 : wr.cell? ⟨b, o + i * 2, none⟩ = some (.int .u64 x1) := by
    rw [HB.out.cell (p := ⟨b, _, none⟩) (HKK.out _ hKb)]; exact hcell 0 _ rfl
   have k1 : wr.cell? ⟨b, o + i * 2 + 1, none⟩ = some (.int .u64 x2) := by
    rw [HB.out.cell (p := ⟨b, _, none⟩) (HKK.out _ hKb)]; exact hcell 1 _ rfl
   obtain ⟨W1, hW1⟩ : ∃ W1, wr.alloc (.cells #[.int .u64 x1, .int .u64 x2] 27) = W1 := ⟨_, rfl⟩
   have hb1 : Below wr.heap.size wr W1 := by rw [← hW1]; exact (Below.refl _ _).alloc (Nat.le_refl _) _
   have hg1 : W1.heap[wr.heap.size]? = some (.cells #[.int .u64 x1, .int .u64 x2] 27 (0, 0)) := by rw [← hW1]; exact heap_alloc_new wr _
   have HB1 : Hid (Below w.heap.size w W1) := HB.out.trans (hb1.mono HB.out.size)
   have hgy := HG.out.below HG.out.lt hb1
   have HG1 : Hid (BoxQ W1 (w.heap.size + 1) (y1, y2)) := hgy
   have k2 := cell_of_row (k := 0) hg1 rfl
   have k3 := cell_of_row (k := 1) hg1 rfl
   have k4 := cell_of_row (k := 0) hgy rfl
   have k5 := cell_of_row (k := 1) hgy rfl
   have EQ := eql_qid x1 x2 y1 y2
   have z0 : (0 : Int) ≤ (i : Int) := by omega
   have z1' : (i : Int) < (xs.length : Int) := by omega
   clear hc hcell hy hKb hcl hrel1 hb1 hg1 hgy HG HB
   by_cases hpy : (x1, x2) = (y1, y2)
   ·rw [decide_eq_true hpy] at EQ
    have HA : Hid (decide ((y1, y2) ∈ xs) = true) := by show _ = _; rw [← hpy]; exact decide_eq_true HME.out
    clear hpy
    go_wp2_with fail
    go_ret
    exact ⟨by rw [HA.out]; rfl, HB1.out⟩
   ·rw [decide_eq_false hpy] at EQ
    have HN2 : Hid ((y1, y2) ∉ xs.take (i + 1)) := fun hx => by
     rw [HTK.out] at hx
     rcases List.mem_append.1 hx with hx | hx
     ·exact HN.out hx
     ·exact hpy (List.mem_singleton.1 hx).symm
    clear hpy
    go_wp2_with fail
    go_roundg g'
    case measure => omega
    case rel => exact ⟨i + 1, by go_num, by omega, by omega, HB1, HG1, HN2⟩
  ·have z1 : ¬ (i : Int) < (xs.length : Int) := by omega
   have HA : Hid (decide ((y1, y2) ∈ xs) = false) := by
    show _ = _
    have := HN.out
    rw [List.take_of_length_le (by omega)] at this
    exact decide_eq_false this
   clear HN
   go_wp2_with fail
   go_ret
   exact ⟨by rw [HA.out]; rfl, HB.out⟩
end Go.Proofs.YtajomnfeicfdlaaGreatDoor
/- What the reference's SameWindow and CheckWindow answer. -/
namespace Go.Proofs.YtajomnfeicfdlaaGreatDoor
open Go.Shelf Go.RowKit Go.Lib
set_option linter.unusedVariables false
set_option linter.unusedSimpArgs false
attribute [local go_sem ↓] Go.wp_at_zero Go.wp_at_succ
set_option maxRecDepth 100000 in
set_option maxHeartbeats 4000000 in
theorem sameWindow_any (v u : Value) (xs ys : List (Int × Int)) (K : Nat → Prop) (w : World) (h : ListIs rQid 2 16 K w v xs) (h' : ListIs rQid 2 16 K w u ys) (hK : ∀ b, K b → b < w.heap.size) :
  Calls Tryz.prog 12 #[.agg #[v], .agg #[u]] w fun e w' => e = .returned (.bool (decide (xs = ys))) ∧ Below w.heap.size w w' := by
 obtain ⟨q0, c0, rfl, hby, -⟩ := id h
 obtain ⟨q1, c1, rfl, hby', -⟩ := id h'
 have H1 : Hid (ListIs rQid 2 16 K w (.slice q0 xs.length c0) xs) := h
 have H2 : Hid (ListIs rQid 2 16 K w (.slice q1 ys.length c1) ys) := h'
 have HKK : Hid (∀ b, K b → b < w.heap.size) := hK
 have hx63 : xs.length ≤ 140737488355328 := by omega
 have hy63 : ys.length ≤ 140737488355328 := by omega
 obtain ⟨W0, hW0⟩ : ∃ W0, (w.alloc (.cells #[.slice q0 xs.length c0] 24)).alloc (.cells #[.slice q1 ys.length c1] 24) = W0 := ⟨_, rfl⟩
 have hb0 : Below w.heap.size w W0 := by rw [← hW0]; exact ((Below.refl _ _).alloc (Nat.le_refl _) _).alloc (by simp) _
 have hg1 : W0.heap[w.heap.size + 1]? = some (.cells #[.slice q1 ys.length c1] 24 (0, 0)) := by rw [← hW0]; simpa using heap_alloc_new (w.alloc (.cells #[.slice q0 xs.length c0] 24)) (.cells #[.slice q1 ys.length c1] 24)
 have hg0 : W0.heap[w.heap.size]? = some (.cells #[.slice q0 xs.length c0] 24 (0, 0)) := by
  rw [← hW0, heap_alloc_old _ _ (by simp)]; exact heap_alloc_new w _
 have HB0 : Hid (Below w.heap.size w W0) := hb0
 have hs0 : w.heap.size + 1 < W0.heap.size := (Array.getElem?_eq_some_iff.1 hg1).1
 have HG : Hid (∀ V, Below W0.heap.size W0 V → V.heap[w.heap.size]? = some (.cells #[.slice q0 xs.length c0] 24 (0, 0)) ∧ V.heap[w.heap.size + 1]? = some (.cells #[.slice q1 ys.length c1] 24 (0, 0)) ∧ Below w.heap.size w V) := fun V hb => ⟨by rw [hb.block _ (by omega)]; exact hg0, by rw [hb.block _ hs0]; exact hg1, hb0.trans (hb.mono hb0.size)⟩
 have r0 := cell_of_row (k := 0) hg0 rfl
 have r1 := cell_of_row (k := 0) hg1 rfl
 clear h h' hK hby hby' hb0 hg0 hg1 hs0
 by_cases hl : xs.length = ys.length
 ·have zb : ((xs.length : Int) != (ys.length : Int)) = false := by simp [hl]
  have HL : Hid (xs.length = ys.length) := hl
  clear hl
  go_enter Tryz.func12, Tryz.ntmps12
  go_wp2_with fail
  go_loopg [16] xs.length (fun gf s8 wx => ∃ (i : Nat), s8 = .int .i64 i ∧ i ≤ xs.length ∧ xs.length ≤ i + gf ∧ Hid (Below W0.heap.size W0 wx) ∧ Hid (xs.take i = ys.take i))
  case atStart => exact ⟨0, rfl, by omega, by omega, Below.refl _ _, rfl⟩
  case round =>
   obtain ⟨i, rfl, hi1, hgf, HB, HN⟩ := hrel
   obtain ⟨hgx, hgy, hbw⟩ := HG.out wr HB.out
   have HBW : Hid (Below w.heap.size w wr) := hbw
   have s0 := cell_of_row (k := 0) hgx rfl
   have s1 := cell_of_row (k := 0) hgy rfl
   by_cases hi : i < xs.length
   ·obtain ⟨g', rfl⟩ : ∃ g', gk = g' + 1 := ⟨gk - 1, by omega⟩
    have hiy : i < ys.length := by rw [← HL.out]; exact hi
    obtain ⟨b, o, x1, x2, rfl, hKb, hx, c1', c2'⟩ := qat H1.out i hi
    obtain ⟨b2, o2, y1, y2, rfl, hKb2, hy, d1', d2'⟩ := qat H2.out i hiy
    have k0 : wr.cell? ⟨b, o + i * 2, none⟩ = some (.int .u64 x1) := (hbw.cell (p := ⟨b, _, none⟩) (HKK.out _ hKb)).trans c1'
    have k1 : wr.cell? ⟨b, o + i * 2 + 1, none⟩ = some (.int .u64 x2) := (hbw.cell (p := ⟨b, _, none⟩) (HKK.out _ hKb)).trans c2'
    have k2 : wr.cell? ⟨b2, o2 + i * 2, none⟩ = some (.int .u64 y1) := (hbw.cell (p := ⟨b2, _, none⟩) (HKK.out _ hKb2)).trans d1'
    have k3 : wr.cell? ⟨b2, o2 + i * 2 + 1, none⟩ = some (.int .u64 y2) := (hbw.cell (p := ⟨b2, _, none⟩) (HKK.out _ hKb2)).trans d2'
    have HTX : Hid (xs.take (i + 1) = xs.take i ++ [(x1, x2)]) := by show _ = _; rw [← hx]; exact List.take_succ_eq_append_getElem hi
    have HTY : Hid (ys.take (i + 1) = ys.take i ++ [(y1, y2)]) := by show _ = _; rw [← hy]; exact List.take_succ_eq_append_getElem hiy
    have EQ := neq_qid x1 x2 y1 y2
    have z0 : (0 : Int) ≤ (i : Int) := by omega
    have z1 : (i : Int) < (xs.length : Int) := by omega
    have z2 : (i : Int) < (ys.length : Int) := by omega
    clear hx hy hKb hKb2 c1' c2' d1' d2' hgx hgy hbw
    by_cases hpy : (x1, x2) = (y1, y2)
    ·rw [decide_eq_true hpy] at EQ
     have HN2 : Hid (xs.take (i + 1) = ys.take (i + 1)) := by show _ = _; rw [HTX.out, HTY.out, HN.out, hpy]
     clear hpy
     go_wp2_with fail
     go_quiet (fail)
     go_wp2_with fail
     go_roundg g'
     case measure => omega
     case rel => exact ⟨i + 1, by go_num, by omega, by omega, below_drewN HB.out _, HN2⟩
    ·rw [decide_eq_false hpy] at EQ
     have HA : Hid (decide (xs = ys) = false) := by
      show _ = _
      refine decide_eq_false fun e => hpy ?_
      subst e
      have := HTX.out.symm.trans HTY.out
      simpa using this
     clear hpy
     go_wp2_with fail
     go_quiet (fail)
     go_wp2_with fail
     go_ret
     exact ⟨by rw [HA.out]; rfl, below_drewN HBW.out _⟩
   ·have z1 : ¬ (i : Int) < (xs.length : Int) := by omega
    have HA : Hid (decide (xs = ys) = true) := by
     show _ = _
     have := HN.out
     rw [List.take_of_length_le (by omega), List.take_of_length_le (by have := HL.out; omega)] at this
     exact decide_eq_true this
    clear HN hgx hgy hbw
    go_wp2_with fail
    go_ret
    exact ⟨by rw [HA.out]; rfl, HBW.out⟩
 ·have zb : ((xs.length : Int) != (ys.length : Int)) = true := by simp; omega
  have HA : Hid (decide (xs = ys) = false) := decide_eq_false fun e => hl (by rw [e])
  clear hl
  go_enter Tryz.func12, Tryz.ntmps12
  go_wp2_with fail
  go_ret
  exact ⟨by rw [HA.out]; rfl, HB0.out⟩
end Go.Proofs.YtajomnfeicfdlaaGreatDoor
/- What the reference's CheckWindow answers. -/
namespace Go.Proofs.YtajomnfeicfdlaaGreatDoor
open Go.Shelf Go.RowKit Go.Lib
set_option linter.unusedVariables false
set_option linter.unusedSimpArgs false
attribute [local go_sem ↓] Go.wp_at_zero Go.wp_at_succ
set_option maxRecDepth 100000 in
set_option maxHeartbeats 4000000 in
theorem refCheckWindow_any (v : Value) (xs : List (Int × Int)) (K : Nat → Prop) (w : World) (h : ListIs rQid 2 16 K w v xs) (hK : ∀ b, K b → b < w.heap.size) (hcp : CapIs v) :
  Calls Tryz.prog 16 #[.agg #[v]] w fun e w' => e = .returned (.int .i64 (winE xs)) ∧ Below w.heap.size w w' := by
 obtain ⟨q0, c0, rfl, hby, -⟩ := id h
 have H1 : Hid (ListIs rQid 2 16 K w (.slice q0 xs.length c0) xs) := h
 have HKK : Hid (∀ b, K b → b < w.heap.size) := hK
 have hcap : xs.length ≤ c0 := hcp _ _ _ rfl
 have hx63 : xs.length ≤ 8796093022208 := by omega
 obtain ⟨W0, hW0⟩ : ∃ W0, w.alloc (.cells #[.slice q0 xs.length c0] 24) = W0 := ⟨_, rfl⟩
 have hb0 : Below w.heap.size w W0 := by rw [← hW0]; exact (Below.refl _ _).alloc (Nat.le_refl _) _
 have hg0 : W0.heap[w.heap.size]? = some (.cells #[.slice q0 xs.length c0] 24 (0, 0)) := by rw [← hW0]; exact heap_alloc_new w _
 have HB0 : Hid (Below w.heap.size w W0) := hb0
 have hs0 : w.heap.size < W0.heap.size := (Array.getElem?_eq_some_iff.1 hg0).1
 have HG : Hid (∀ V, Below W0.heap.size W0 V → V.cell? ⟨w.heap.size, 0, none⟩ = some (.slice q0 xs.length c0) ∧ Below w.heap.size w V) := fun V hb => ⟨(hb.cell (p := ⟨w.heap.size, 0, none⟩) hs0).trans (cell_of_row (k := 0) hg0 rfl), hb0.trans (hb.mono hb0.size)⟩
 have r0 := cell_of_row (k := 0) hg0 rfl
 clear h hK hby hb0 hg0 hs0 hcp
 by_cases h16 : 16 < xs.length
 ·have z : (16 : Int) < (xs.length : Int) := by omega
  have HE : Hid (winE xs = 6) := by show _ = _; unfold winE; rw [if_pos (Or.inl h16)]
  clear h16
  go_enter Tryz.func16, Tryz.ntmps16
  go_wp2_with fail
  go_ret
  exact ⟨by rw [HE.out]; rfl, HB0.out⟩
 ·have z : ¬ (16 : Int) < (xs.length : Int) := by omega
  have H16 : Hid (¬ 16 < xs.length) := h16
  clear h16
  go_enter Tryz.func16, Tryz.ntmps16
  go_wp2_with fail
  go_loopg [14] xs.length (fun gf s7 wx => ∃ (i : Nat), s7 = .int .i64 i ∧ i ≤ xs.length ∧ xs.length ≤ i + gf ∧ Hid (Below W0.heap.size W0 wx) ∧ Hid ((xs.take i).Nodup))
  case atStart => exact ⟨0, rfl, by omega, by omega, Below.refl _ _, by show List.Nodup _; simp⟩
  case round =>
   obtain ⟨i, rfl, hi1, hgf, HB, HN⟩ := hrel
   obtain ⟨s0, hbw⟩ := HG.out wr HB.out
   have HBW : Hid (Below w.heap.size w wr) := hbw
   by_cases hi : i < xs.length
   ·obtain ⟨g', rfl⟩ : ∃ g', gk = g' + 1 := ⟨gk - 1, by omega⟩
    obtain ⟨b, o, x1, x2, rfl, hKb, hx, c1', c2'⟩ := qat H1.out i hi
    have k0 : wr.cell? ⟨b, o + i * 2, none⟩ = some (.int .u64 x1) := (hbw.cell (p := ⟨b, _, none⟩) (HKK.out _ hKb)).trans c1'
    have k1 : wr.cell? ⟨b, o + i * 2 + 1, none⟩ = some (.int .u64 x2) := (hbw.cell (p := ⟨b, _, none⟩) (HKK.out _ hKb)).trans c2'
    have HTK : Hid (xs.take (i + 1) = xs.take i ++ [(x1, x2)]) := by show _ = _; rw [← hx]; exact List.take_succ_eq_append_getElem hi
    obtain ⟨W1, hW1, hb1, hq1⟩ := qbox wr (x1, x2)
    simp only at hW1
    have HB1 : Hid (Below W0.heap.size W0 W1) := HB.out.trans (hb1.mono HB.out.size)
    have HQ1 : Hid (BoxQ W1 wr.heap.size (x1, x2)) := hq1
    have s1 := (HG.out W1 HB1.out).1
    have z0 : (0 : Int) ≤ (i : Int) := by omega
    have z1 : (i : Int) < (xs.length : Int) := by omega
    have z2 : (i : Int) ≤ (c0 : Int) := by omega
    have HXI : Hid (∀ j, j < i → ∃ y1 y2, xs[j]? = some (y1, y2) ∧ ∀ V, Below w.heap.size w V → V.cell? ⟨b, o + j * 2, none⟩ = some (.int .u64 y1) ∧ V.cell? ⟨b, o + j * 2 + 1, none⟩ = some (.int .u64 y2)) := fun j hj => by
     obtain ⟨b', o', y1, y2, e, hKb', hy, d1, d2⟩ := qat H1.out j (by omega)
     cases e
     refine ⟨y1, y2, by rw [List.getElem?_eq_getElem (by omega), hy], fun V hV => ⟨(hV.cell (p := ⟨b, _, none⟩) (HKK.out _ hKb')).trans d1, (hV.cell (p := ⟨b, _, none⟩) (HKK.out _ hKb')).trans d2⟩⟩
    clear hx hKb c1' c2' hb1 hq1 hbw
    obtain ⟨V0, hV0⟩ : ∃ V0 : World, V0 = wr := ⟨_, rfl⟩
    subst hV0
    go_wp2_with fail
    clear k0 k1 s0 s1
    go_loopg [24] i (fun gf s24 wx => ∃ (j : Nat), s24 = .int .i64 j ∧ j ≤ i ∧ i ≤ j + gf ∧ Hid (Below W1.heap.size W1 wx) ∧ Hid ((x1, x2) ∉ xs.take j))
    case atStart => exact ⟨0, rfl, by omega, by omega, Below.refl _ _, fun hx => by simp at hx⟩
    case round =>
     obtain ⟨j, rfl, hj1, hgj, HBj, HNj⟩ := hrel
     have hbj : Below W0.heap.size W0 wr := HB1.out.trans (HBj.out.mono HB1.out.size)
     have HBJ : Hid (Below W0.heap.size W0 wr) := hbj
     by_cases hj : j < i
     ·obtain ⟨e', rfl⟩ : ∃ g', gk = g' + 1 := ⟨gk - 1, by omega⟩
      obtain ⟨y1, y2, hy, hyc⟩ := HXI.out j hj
      obtain ⟨k0, k1⟩ := hyc wr (HG.out wr hbj).2
      have HTJ : Hid (xs.take (j + 1) = xs.take j ++ [(y1, y2)]) := by
       show _ = _
       rw [List.take_add_one, hy]; rfl
      have HMJ : Hid ((y1, y2) ∈ xs.take i) := List.mem_of_getElem? (i := j) (by rw [List.getElem?_take_of_lt hj]; exact hy)
      obtain ⟨W2, hW2, hb2, hq2⟩ := qbox wr (y1, y2)
      simp only at hW2
      have hqx := (HQ1.out.below HQ1.out.lt HBj.out).below (HQ1.out.below HQ1.out.lt HBj.out).lt hb2
      have k2 := hq2.c0
      have k3 := hq2.c1
      have k4 := hqx.c0
      have k5 := hqx.c1
      have HB2 : Hid (Below W1.heap.size W1 W2) := HBj.out.trans (hb2.mono HBj.out.size)
      have EQ := eql_qid y1 y2 x1 x2
      have q0 : (0 : Int) ≤ (j : Int) := by omega
      have q1 : (j : Int) < (i : Int) := by omega
      simp only at k2 k3 k4 k5
      clear hy hyc hb2 hq2 hqx hbj
      by_cases hpy : (y1, y2) = (x1, x2)
      ·rw [decide_eq_true hpy] at EQ
       have HE : Hid (winE xs = 6) := by
        show _ = _
        unfold winE
        rw [if_pos]
        refine Or.inr fun hnd => ?_
        have h1 : (xs.take (i + 1)).Nodup := hnd.sublist (List.take_sublist _ _)
        rw [HTK.out, List.nodup_append] at h1
        exact h1.2.2 _ HMJ.out _ (List.mem_singleton.2 rfl) hpy
       have HBF : Hid (Below w.heap.size w W2) := (HG.out W2 (HB1.out.trans (HB2.out.mono HB1.out.size))).2
       clear hpy
       go_wp2_with fail
       go_ret
       exact ⟨by rw [HE.out]; rfl, HBF.out⟩
      ·rw [decide_eq_false hpy] at EQ
       have HN2 : Hid ((x1, x2) ∉ xs.take (j + 1)) := fun hx => by
        rw [HTJ.out] at hx
        rcases List.mem_append.1 hx with hx | hx
        ·exact HNj.out hx
        ·exact hpy (List.mem_singleton.1 hx).symm
       clear hpy
       go_wp2_with fail
       go_roundg e'
       case measure => omega
       case rel => exact ⟨j + 1, by go_num, by omega, by omega, HB2, HN2⟩
     ·have q1 : ¬ (j : Int) < (i : Int) := by omega
      have hji : j = i := by omega
      have HN2 : Hid ((xs.take (i + 1)).Nodup) := by
       show List.Nodup _
       rw [HTK.out, List.nodup_append]
       refine ⟨HN.out, by simp, fun a ha b hb e => ?_⟩
       rw [List.mem_singleton.1 hb] at e
       subst e
       exact HNj.out (hji ▸ ha)
      clear hji hbj
      go_wp2_with fail
      go_roundg g'
      case measure => omega
      case rel => exact ⟨i + 1, by go_num, by omega, by omega, HBJ, HN2⟩
   ·have z1 : ¬ (i : Int) < (xs.length : Int) := by omega
    have HE : Hid (winE xs = 0) := by
     show _ = _
     have := HN.out
     rw [List.take_of_length_le (by omega)] at this
     unfold winE
     rw [if_neg]
     rintro (e | e)
     ·exact H16.out e
     ·exact e this
    clear HN hbw
    go_wp2_with fail
    go_ret
    exact ⟨by rw [HE.out]; rfl, HBW.out⟩
end Go.Proofs.YtajomnfeicfdlaaGreatDoor
/- What the reference's Put answers. -/
namespace Go.Proofs.YtajomnfeicfdlaaGreatDoor
open Go.Shelf Go.RowKit Go.Lib
set_option linter.unusedVariables false
set_option linter.unusedSimpArgs false
attribute [local go_sem ↓] Go.wp_at_zero Go.wp_at_succ
set_option maxRecDepth 100000 in
set_option maxHeartbeats 8000000 in
theorem refPut_any (y : Int × Int) (v : Value) (xs : List (Int × Int)) (K : Nat → Prop) (w : World) (h : ListIs rQid 2 16 K w v xs) (hK : ∀ b, K b → b < w.heap.size) (hcp : CapIs v) :
  Calls Tryz.prog 10 #[.agg #[v], .agg #[.int .u64 y.1, .int .u64 y.2]] w fun e w' => ∃ q n c, e = .returned (.tuple #[.agg #[.slice q n c], .int .i64 (winE xs)]) ∧ n ≤ c ∧ ListIs rQid 2 16 (From w.heap.size w') w' (.slice q n c) (putR y xs) ∧ Below w.heap.size w w' := by
 obtain ⟨y1, y2⟩ := y
 obtain ⟨W0, hW0, hb0, hs0, g0, g1, g2⟩ := three_boxes w #[v] #[.int .u64 y1, .int .u64 y2] #[.slice none 0 0] 24 27 24
 have HV : Hid (∀ V, Below W0.heap.size W0 V → V.cell? ⟨w.heap.size, 0, none⟩ = some v ∧ BoxQ V (w.heap.size + 1) (y1, y2) ∧ V.heap[w.heap.size + 1 + 1]? = some (.cells #[.slice none 0 0] 24 (0, 0)) ∧ Below w.heap.size w V ∧ ListIs rQid 2 16 K V v xs ∧ ∀ b, K b → b < V.heap.size) := fun V hb => by
  have hbw : Below w.heap.size w V := hb0.trans (hb.mono hb0.size)
  exact ⟨(hb.cell (p := ⟨w.heap.size, 0, none⟩) (by show w.heap.size < _; omega)).trans (cell_of_row g0 rfl), by show V.heap[_]? = _; rw [hb.block _ (by omega)]; exact g1, by rw [hb.block _ (by omega)]; exact g2, hbw, h.mono mQid (fun _ h => h) (kept_of hK hbw), fun b hk => Nat.lt_of_lt_of_le (hK b hk) hbw.size⟩
 have CW : Hid (Calls Tryz.prog 16 #[.agg #[v]] W0 fun e w' => e = .returned (.int .i64 (winE xs)) ∧ Below W0.heap.size W0 w') := by
  obtain ⟨_, _, _, _, t5, t6⟩ := HV.out W0 (Below.refl _ _)
  exact refCheckWindow_any v xs K W0 t5 t6 hcp
 obtain ⟨q0, c0, rfl, -, -⟩ := id h
 have r0 := cell_of_row (k := 0) g0 rfl
 have HS0 : Hid (W0.heap.size = w.heap.size + 3) := hs0
 have HKB : Hid (∀ b, K b → b < w.heap.size) := hK
 obtain ⟨k, hk⟩ : ∃ k, winE xs = k := ⟨_, rfl⟩
 have HKK : Hid (winE xs = k) := hk
 rw [hk] at CW ⊢
 clear h hK hcp hb0 g0 g1 g2 hk hs0
 go_enter Tryz.func10, Tryz.ntmps10
 go_wp2_with fail
 refine CW.out.mono ?_
 rintro e w1 ⟨rfl, hb1⟩
 have HB1 : Hid (Below W0.heap.size W0 w1) := hb1
 clear hb1 CW
 by_cases hk0 : k = 0
 ·subst hk0
  have HPR : Hid (putR (y1, y2) xs = putQ (y1, y2) xs) := by show _ = _; unfold putR; rw [if_pos HKK.out]
  obtain ⟨_, hx16, _⟩ := putQ_good (y := (y1, y2)) HKK.out
  have HX16 : Hid (xs.length ≤ 16) := hx16
  have HD16 : Hid (∀ i, (dropQ (y1, y2) (xs.take i)).length ≤ 16) := fun i => Nat.le_trans (dropQ_len _ _) (Nat.le_trans (by simp; omega) hx16)
  have hx63 : xs.length ≤ 140737488355328 := by omega
  have r1 := (HV.out w1 HB1.out).1
  have HO1 : Hid (w1.ownsRow W0.heap.size 27 2 (.slice none 0 0) (dropQ (y1, y2) (xs.take 0)).length (qcells (dropQ (y1, y2) (xs.take 0)))) := World.ownsRow_nil _ _ _ _
  clear hx16 r0
  go_wp2_with fail
  go_loopg [6, 16] xs.length (fun gf s6 s16 wx => ∃ (i : Nat) (u : Value), s6 = u ∧ s16 = .int .i64 i ∧ i ≤ xs.length ∧ xs.length ≤ i + gf ∧ Hid (Below W0.heap.size W0 wx) ∧ Hid (wx.ownsRow W0.heap.size 27 2 u (dropQ (y1, y2) (xs.take i)).length (qcells (dropQ (y1, y2) (xs.take i)))))
  case atStart => exact ⟨0, _, rfl, rfl, by omega, by omega, HB1, HO1⟩
  case round =>
   clear HB1 HO1
   obtain ⟨i, u, hu, rfl, hi1, hgf, HB, HO⟩ := hrel
   have hu' := hu.symm
   subst hu'
   clear hu
   obtain ⟨x1, x2, x3, x4, x5, x6⟩ := HV.out wr HB.out
   by_cases hi : i < xs.length
   ·obtain ⟨g', rfl⟩ : ∃ g', gk = g' + 1 := ⟨gk - 1, by omega⟩
    obtain ⟨b, o, z1, z2, rfl, hKb, hx, k0, k1⟩ := qat x5 i hi
    have hst := dropQ_step (y1, y2) xs i hi
    rw [hx] at hst
    obtain ⟨W1, hW1, hb1, hq1⟩ := qbox wr (z1, z2)
    have hB1 : Below W0.heap.size W0 W1 := HB.out.trans (hb1.mono HB.out.size)
    have hqy := (HV.out W1 hB1).2.1
    have HB1 : Hid (Below W0.heap.size W0 W1) := hB1
    have HO1 : Hid (W1.ownsRow W0.heap.size 27 2 u (dropQ (y1, y2) (xs.take i)).length (qcells (dropQ (y1, y2) (xs.take i)))) := own_alloc HO.out hb1
    have k2 := hq1.c0
    have k3 := hq1.c1
    have k4 := hqy.c0
    have k5 := hqy.c1
    simp only at hW1 k2 k3 k4 k5
    have EQ := neq_qid z1 z2 y1 y2
    have zz0 : (0 : Int) ≤ (i : Int) := by omega
    have zz1 : (i : Int) < (xs.length : Int) := by omega
    by_cases hpy : (z1, z2) = (y1, y2)
    ·rw [decide_eq_true hpy] at EQ
     have HO2 : Hid (W1.ownsRow W0.heap.size 27 2 u (dropQ (y1, y2) (xs.take (i + 1))).length (qcells (dropQ (y1, y2) (xs.take (i + 1))))) := by rw [hst, if_pos hpy]; exact HO1.out
     clear hpy hst hx hKb hb1 hq1 hB1 hqy x1 x2 x3 x4 x5 x6 HO HB HO1
     go_wp2_with fail
     go_roundg g'
     case measure => omega
     case rel => exact ⟨i + 1, _, rfl, by go_num, by omega, by omega, HB1, HO2⟩
    ·rw [decide_eq_false hpy] at EQ
     obtain ⟨W2, hW2, hb2, hq2⟩ := qbox W1 (z1, z2)
     have hB2 : Below W0.heap.size W0 W2 := hB1.trans (hb2.mono hB1.size)
     obtain ⟨g, c, X2, e9, ho9, hs9, hc9, hbb9⟩ := push_one (own_alloc HO1.out hb2) hq2 (by have := HD16.out i; omega) hB2.size
     have HO2 : Hid (X2.ownsRow W0.heap.size 27 2 (.slice (some ⟨g, 0, none⟩) ((dropQ (y1, y2) (xs.take i)).length + 1) c) (dropQ (y1, y2) (xs.take (i + 1))).length (qcells (dropQ (y1, y2) (xs.take (i + 1))))) := by rw [hst, if_neg hpy]; exact ho9
     have HB2 : Hid (Below W0.heap.size W0 X2) := hbb9 _ _ hB2 (Nat.le_refl _) hB2.size
     simp only at hW2
     clear hpy hst hx hKb hb1 hq1 hB1 hqy x1 x2 x3 x4 x5 x6 HO HB HO1 hb2 hq2 hB2 ho9 hs9 hc9 hbb9 HB1
     go_wp2_with (at_builtin; refine Lib.wpList_append_run _ rfl _ _ _ _ rfl _ _ rfl rfl _ _ e9 ?_)
     go_roundg g'
     case measure => omega
     case rel => exact ⟨i + 1, _, rfl, by go_num, by omega, by omega, HB2, HO2⟩
   ·have zz1 : ¬ (i : Int) < (xs.length : Int) := by omega
    have hoo := HO.out
    rw [List.take_of_length_le (by omega)] at hoo
    obtain ⟨W2, hW2, hb2, hq2⟩ := qbox wr (y1, y2)
    have hB2 : Below W0.heap.size W0 W2 := HB.out.trans (hb2.mono HB.out.size)
    have hd16 : (dropQ (y1, y2) xs).length ≤ 16 := Nat.le_trans (dropQ_len _ _) HX16.out
    obtain ⟨g9, c9, X2, e9, ho9, hs9, hc9, hbb9⟩ := push_one (own_alloc hoo hb2) hq2 (by omega) hB2.size
    have hb9 := hbb9 _ _ hB2 (Nat.le_refl _) hB2.size
    obtain ⟨-, -, x3', x4', -, -⟩ := HV.out _ hb9
    obtain ⟨n9, hn9⟩ : ∃ n9, (dropQ (y1, y2) xs).length + 1 = n9 := ⟨_, rfl⟩
    have FIN := hid (put_fin ho9 x3' x4' HS0.out hd16 hn9)
    have g9c := cell_of_row (k := 0) x3' rfl
    have f9c := frozen_zero x3' 0
    have k4 := x2.c0
    have k5 := x2.c1
    rw [hn9] at hc9 e9
    have zc1 : (n9 : Int) ≤ (c9 : Int) := by omega
    have zc2 : (1 : Int) ≤ (n9 : Int) := by omega
    simp only at hW2 k4 k5
    clear x1 x2 x3 x4 x5 x6 x3' x4' ho9 hb9 hn9 hoo hb2 hq2 hB2 hbb9 hs9 HO HB
    by_cases hm : 16 < n9
    ·obtain ⟨f1, f2, f3⟩ := FIN.out _ (.inl ⟨hm, rfl⟩)
     have HF : Hid (ListIs rQid 2 16 (From w.heap.size _) _ _ (putQ (y1, y2) xs) ∧ Below w.heap.size w _) := ⟨f1, f2⟩
     have z9 : (16 : Int) < (n9 : Int) := by omega
     have zc3 : (1 : Int) ≤ (c9 : Int) := by omega
     have zc4 : ¬ (c9 = 1) := by omega
     have zc5 : ¬ ((c9 : Int) = 1) := by omega
     have zc6 : n9 - 1 ≤ c9 - 1 := by omega
     clear f1 f2
     go_wp2_with (at_builtin; refine Lib.wpList_append_run _ rfl _ _ _ _ rfl _ _ rfl rfl _ _ e9 ?_)
     refine bodyPost_ret (v := .tuple #[.agg #[.slice (some ⟨g9, 2, none⟩) (n9 - 1) (c9 - 1)], .int .i64 0]) (by simp [results, Tryz.results10, go_sem, f3]) rfl ?_
     exact ⟨_, _, _, rfl, zc6, by rw [HPR.out]; exact HF.out.1, HF.out.2⟩
    ·obtain ⟨f1, f2, f3⟩ := FIN.out _ (.inr ⟨hm, rfl⟩)
     have HF : Hid (ListIs rQid 2 16 (From w.heap.size _) _ _ (putQ (y1, y2) xs) ∧ Below w.heap.size w _) := ⟨f1, f2⟩
     have z9 : ¬ (16 : Int) < (n9 : Int) := by omega
     clear f1 f2
     go_wp2_with (at_builtin; refine Lib.wpList_append_run _ rfl _ _ _ _ rfl _ _ rfl rfl _ _ e9 ?_)
     refine bodyPost_ret (v := .tuple #[.agg #[.slice (some ⟨g9, 0, none⟩) n9 c9], .int .i64 0]) (by simp [results, Tryz.results10, go_sem, f3]) rfl ?_
     exact ⟨_, _, _, rfl, hc9, by rw [HPR.out]; exact HF.out.1, HF.out.2⟩
 ·have hk6 : k = 6 := by have := HKK.out; unfold winE at this; split at this <;> omega
  subst hk6
  obtain ⟨-, -, x3, x4, -, -⟩ := HV.out _ HB1.out
  obtain ⟨a1, a2, a3, a4, a5⟩ := setCell_any w1 (w.heap.size + 1 + 1) 0 (.slice none 0 0)
  have HPR : Hid (putR (y1, y2) xs = []) := by show _ = _; unfold putR; rw [if_neg (by rw [HKK.out]; decide)]
  have HF : Hid (Below w.heap.size w (w1.setCell ⟨w.heap.size + 1 + 1, 0, none⟩ (.slice none 0 0))) := ⟨a2.trans x4.os, a3.trans x4.tape, a4.trans x4.output, by have := x4.size; omega, fun b h => by rw [a5 b (by omega)]; exact x4.block b h⟩
  have HF0 : Hid (Below w.heap.size w w1) := x4
  have g9c := cell_of_row (k := 0) x3 rfl
  have f9c := frozen_zero x3 0
  have f3 : (w1.setCell ⟨w.heap.size + 1 + 1, 0, none⟩ (.slice none 0 0)).cell? ⟨w.heap.size + 1 + 1, 0, none⟩ = some (.slice none 0 0) := by rw [setCell_eq_setRow w1 _ 0 _ 24 (0, 0) _ x3]; exact cell_of_row (k := 0) (setRow_heap w1 _ _ _ 24 _ x3) rfl
  clear x3 x4 a1 a2 a3 a4 a5 hk0
  go_wp2_with fail
  refine bodyPost_ret (v := .tuple #[.agg #[.slice none 0 0], .int .i64 6]) (by simp [results, Tryz.results10, go_sem, f3]) rfl ?_
  exact ⟨_, _, _, rfl, Nat.le_refl _, by rw [HPR.out]; exact ListIs.nil _ _ _ _ _, by first | exact HF.out | exact HF0.out⟩
end Go.Proofs.YtajomnfeicfdlaaGreatDoor
