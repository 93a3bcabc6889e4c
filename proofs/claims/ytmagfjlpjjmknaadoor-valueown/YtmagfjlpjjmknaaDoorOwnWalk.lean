/- The law ValueOwn returns true. -/
import Derived.Test.YtmagfjlpjjmknaaDoorXe
import Derived.Test.YtmagfjlpjjmknaaDoorLives
namespace Go.Proofs.YtmagfjlpjjmknaaDoor
open Go.Shelf Go.RowKit Go.Lib Go.Sort
set_option linter.unusedVariables false
set_option linter.unusedSimpArgs false
attribute [local go_sem ↓] Go.wp_at_zero Go.wp_at_succ

/-- A row that may be spoilt: its numbers are there. -/
def Shp (base g : Nat) (W : World) (u : Value) (m : Nat) : Prop :=
  (u = .slice none 0 0 ∧ m = 0) ∨ ∃ b cap cur, u = .slice (some ⟨b, 0, none⟩) m cap ∧ base ≤ b ∧ b ≠ g ∧ W.heap[b]? = some (.cells cur 30 (0, 0)) ∧ ∀ k, k < m → ∃ n, cur[k * 4 + 2]? = some (.int .i64 n)
/-- Rows that are being spoilt. -/
def SpJ (w2 : World) (g : Nat) (out : List (List Val)) (wx : World) : Prop :=
  Below w2.heap.size w2 wx ∧ g < wx.heap.size ∧ ∀ j (h : j < out.length), ∃ u, wx.cell? ⟨g, j, none⟩ = some u ∧ Shp w2.heap.size g wx u out[j].length
theorem OwnL.spoil {w2 W : World} {g cap : Nat} {out : List (List Val)} (h : OwnL w2.heap.size W (.slice (some ⟨g, 0, none⟩) out.length cap) out) (hb : Below w2.heap.size w2 W) : SpJ w2 g out W := by
  obtain ⟨g', cap', hv, hgb, hlt, hc⟩ := h
  simp only [Value.slice.injEq, Option.some.injEq, Addr.mk.injEq, and_true, true_and] at hv
  obtain ⟨rfl, rfl⟩ := hv
  refine ⟨hb, hlt, fun j hj => ?_⟩
  obtain ⟨u, h1, _, h3, h4⟩ := hc j hj
  refine ⟨u, h1, ?_⟩
  obtain ⟨hl, hn | ⟨b, cap, cur, rfl, hbb, hg, hnc, hcm, hcs, htake⟩⟩ := h3
  · exact .inl hn
  · refine .inr ⟨b, cap, cur, rfl, hbb, fun e => h4 (by rw [e]; rfl), hg, fun k hk => ?_⟩
    obtain ⟨_, _, a2, _⟩ := flat_at out[j] k hk
    rw [← htake] at a2
    have := List.getElem?_take (l := cur.toList) (i := out[j].length * 4) (j := k * 4 + 2)
    rw [a2] at this
    split at this
    · exact ⟨_, by simpa using this.symm⟩
    · cases this
theorem spoil_step {w2 wx : World} {g : Nat} {out : List (List Val)} (h : SpJ w2 g out wx) {b k : Nat} (hb : w2.heap.size ≤ b) (hne : b ≠ g) {cur : Array Value} (hg : wx.heap[b]? = some (.cells cur 30 (0, 0))) (x : Int) : SpJ w2 g out (wx.setCell ⟨b, k * 4 + 2, none⟩ (.int .i64 x)) := by
  obtain ⟨hB, hlt, hc⟩ := h
  have hz : (wx.setCell ⟨b, k * 4 + 2, none⟩ (.int .i64 x)).heap.size = wx.heap.size := by simp [World.setCell]
  have ho : ∀ i, i ≠ b → (wx.setCell ⟨b, k * 4 + 2, none⟩ (.int .i64 x)).heap[i]? = wx.heap[i]? := fun i hi => heap_setCell_other wx ⟨b, k * 4 + 2, none⟩ i _ hi
  have hs := heap_setCell_same wx b (k * 4 + 2) cur 30 (.int .i64 x) hg
  refine ⟨⟨hB.os, hB.tape, hB.output, by rw [hz]; exact hB.size, fun i hi => (ho i (by omega)).trans (hB.block i hi)⟩, by rw [hz]; exact hlt, fun j hj => ?_⟩
  obtain ⟨u, h1, h2⟩ := hc j hj
  refine ⟨u, ?_, ?_⟩
  · rw [World.cell?_of_block (w := wx) (ho g (Ne.symm hne))]; exact h1
  · rcases h2 with h2 | ⟨b', cap', cur', rfl, hbb, hbg, hg', hn⟩
    · exact .inl h2
    · by_cases e : b' = b
      · subst e
        rw [hg] at hg'
        simp only [Option.some.injEq, Obj.cells.injEq, and_true] at hg'
        subst hg'
        refine .inr ⟨b', cap', _, rfl, hbb, hbg, hs, fun i hi => ?_⟩
        obtain ⟨n, hn⟩ := hn i hi
        by_cases e2 : k * 4 + 2 = i * 4 + 2
        · have hlt2 : i * 4 + 2 < cur.size := (Array.getElem?_eq_some_iff.1 hn).1
          rw [e2]
          exact ⟨x, by rw [Array.getElem?_setIfInBounds_self_of_lt hlt2]⟩
        · exact ⟨n, by rw [Array.getElem?_setIfInBounds_ne e2]; exact hn⟩
      · exact .inr ⟨b', cap', cur', rfl, hbb, hbg, by rw [ho b' e]; exact hg', hn⟩
set_option maxRecDepth 100000 in
set_option maxHeartbeats 8000000 in
theorem own_core (v : Value) (xs : List (List Val)) (w : World) (h1 : RowsL w v xs) (hn : (xs.length + 1) * 24 ≤ 140737488355328) (hr : ∀ r ∈ xs, r.length * 32 ≤ 140737488355328) (hT : Lib.Utf8Tabs 0 1 w) :
    Calls Tryd.prog 5 #[v] w fun e w' => e = .returned (.bool true) ∧ Below w.heap.size w w' := by
  have HV : Hid (RowsL w v xs) := h1
  have HR : Hid (∀ r ∈ xs, r.length * 32 ≤ 140737488355328) := hr
  have HT : Hid (Lib.Utf8Tabs 0 1 w) := hT
  clear h1 hr hT
  go_enter Tryd.func5, Tryd.ntmps5
  go_wp2_with fail
  refine (lives_any w HT.out).mono ?_
  rintro e w1 ⟨rfl, hb1⟩
  have HB1 : Hid (Below w.heap.size w w1) := hb1
  clear hb1
  go_wp2_with fail
  refine (refCopy_any v xs w1 (HV.out.below HB1.out) (by omega) HR.out).mono ?_
  rintro e w2 ⟨gv, rfl, hG⟩
  have HG : Hid (RowsL w2 gv xs) := hG.rows (by omega)
  have HB2 : Hid (Below w.heap.size w w2) := HB1.out.trans (hG.below.mono HB1.out.size)
  clear hG HB1
  go_wp2_with fail
  refine (sort_any gv xs w2 HG.out (by omega) HR.out (Utf8Tabs_below HT.out HB2.out)).mono ?_
  rintro e w3 ⟨s, out, rfl, hS, hO, hb3⟩
  obtain ⟨g, cap, rfl, hO2⟩ : ∃ g cap, s = .slice (some ⟨g, 0, none⟩) out.length cap ∧ OwnL w2.heap.size w3 s out := by
    have hO2 := hO
    obtain ⟨g, cap, rfl, _⟩ := hO
    exact ⟨g, cap, rfl, hO2⟩
  have HJ : Hid (SpJ w2 g out w3) := hO2.spoil hb3
  have hlen : out.length ≤ xs.length := by rw [hS.length]; exact Nat.le_refl _
  have HRo : Hid (∀ r ∈ out, r.length * 32 ≤ 140737488355328) := fun r hr => HR.out r (hS.perm.subset hr)
  clear hS hO hO2 hb3
  go_wp2_with fail
  go_loopg [15] out.length (fun gf s15 wx => ∃ i : Nat, s15 = .int .i64 i ∧ i ≤ out.length ∧ out.length ≤ i + gf ∧ Hid (SpJ w2 g out wx))
  case atStart => exact ⟨0, rfl, by omega, by omega, HJ⟩
  case round =>
    clear HJ
    obtain ⟨i, rfl, hi1, hgf, HJ⟩ := hrel
    by_cases hi : i < out.length
    · obtain ⟨g', rfl⟩ : ∃ g', gk = g' + 1 := ⟨gk - 1, by omega⟩
      obtain ⟨u, x0, x1⟩ : ∃ u, wr.cell? ⟨g, i, none⟩ = some u ∧ Shp w2.heap.size g wr u out[i].length := by
        obtain ⟨_, _, h⟩ := HJ.out
        exact h i hi
      obtain ⟨m, hm⟩ : ∃ m, out[i].length = m := ⟨_, rfl⟩
      have HM : Hid (out[i].length = m) := hm
      rw [hm] at x1
      have hmb : m * 32 ≤ 140737488355328 := by rw [← hm]; exact HRo.out _ (List.getElem_mem hi)
      obtain ⟨pu, cu, rfl⟩ : ∃ pu cu, u = .slice pu m cu := by
        rcases x1 with ⟨rfl, rfl⟩ | ⟨b, cap, cur, rfl, _⟩
        · exact ⟨_, _, rfl⟩
        · exact ⟨_, _, rfl⟩
      have hz0 : (0 : Int) ≤ (i : Int) := by omega
      have hz1 : (i : Int) < (out.length : Int) := by omega
      clear x1 hm
      obtain ⟨V0, hV0⟩ : ∃ V0 : World, V0 = wr := ⟨_, rfl⟩
      subst hV0
      go_wp2_with fail
      go_loopg [23] m (fun gf s23 wx => ∃ k : Nat, s23 = .int .i64 k ∧ k ≤ m ∧ m ≤ k + gf ∧ Hid (SpJ w2 g out wx) ∧ wx.cell? ⟨g, i, none⟩ = some (.slice pu m cu))
      case atStart => exact ⟨0, rfl, by omega, by omega, HJ, x0⟩
      case round =>
        clear HJ x0
        obtain ⟨k, rfl, hk1, hkf, HJ, x0⟩ := hrel
        by_cases hk : k < m
        · obtain ⟨g2, rfl⟩ : ∃ g2, gk = g2 + 1 := ⟨gk - 1, by omega⟩
          obtain ⟨b, cur, n, rfl, hb, hne, hg, hcn⟩ : ∃ b cur n, pu = some ⟨b, 0, none⟩ ∧ w2.heap.size ≤ b ∧ b ≠ g ∧ wr.heap[b]? = some (.cells cur 30 (0, 0)) ∧ cur[k * 4 + 2]? = some (.int .i64 n) := by
            obtain ⟨_, _, h⟩ := HJ.out
            obtain ⟨u', e1, e2⟩ := h i hi
            rw [x0] at e1
            obtain rfl := Option.some.inj e1
            rw [HM.out] at e2
            rcases e2 with ⟨e2, rfl⟩ | ⟨b, cap', cur, e2, hb, hne, hg, hn⟩
            · omega
            · simp only [Value.slice.injEq] at e2
              obtain ⟨rfl, _, rfl⟩ := e2
              obtain ⟨n, hn⟩ := hn k hk
              exact ⟨b, cur, n, rfl, hb, hne, hg, hn⟩
          have y0 : wr.cell? ⟨b, k * 4 + 2, none⟩ = some (.int .i64 n) := by simp [World.cell?, hg, hcn]
          have y1 : wr.frozen? ⟨b, k * 4 + 2, none⟩ = false := frozen_zero hg _
          have HJ2 : Hid (∀ x : Int, SpJ w2 g out (wr.setCell ⟨b, k * 4 + 2, none⟩ (.int .i64 x))) := fun x => spoil_step HJ.out hb hne hg x
          have x2 : Hid (∀ x : Int, (wr.setCell ⟨b, k * 4 + 2, none⟩ (.int .i64 x)).cell? ⟨g, i, none⟩ = some (.slice (some ⟨b, 0, none⟩) m cu)) := fun x => by
            rw [World.cell?_setCell_other _ _ _ _ (by intro e; simp only [Addr.mk.injEq] at e; exact hne e.1)]; exact x0
          have hz2 : (0 : Int) ≤ (k : Int) := by omega
          have hz3 : (k : Int) < (m : Int) := by omega
          clear HJ hg hcn
          go_wp2_with fail
          go_roundg g2
          case measure => omega
          case rel => exact ⟨k + 1, by go_num, by omega, by omega, HJ2.out _, x2.out _⟩
        · have hz3 : ¬ (k : Int) < (m : Int) := by omega
          go_wp2_with fail
          go_roundg g'
          case measure => omega
          case rel => exact ⟨i + 1, by go_num, by omega, by omega, HJ⟩
    · have hz1 : ¬ (i : Int) < (out.length : Int) := by omega
      have HBs : Hid (Below w2.heap.size w2 wr) := HJ.out.1
      have HBw : Hid (Below w.heap.size w wr) := HB2.out.trans (HBs.out.mono HB2.out.size)
      clear HJ
      go_wp2_with fail
      have cs := same_any gv v xs xs wr (HG.out.below HBs.out) (HV.out.below HBw.out)
      rw [(sameRs_iff xs xs).2 rfl] at cs
      refine cs.mono ?_
      rintro e w8 ⟨rfl, hb8⟩
      have HW8 : Hid (Below w.heap.size w w8) := HBw.out.trans (hb8.mono HBw.out.size)
      clear cs hb8
      go_wp2_with fail
      go_ret
      exact ⟨rfl, HW8.out⟩
end Go.Proofs.YtmagfjlpjjmknaaDoor
