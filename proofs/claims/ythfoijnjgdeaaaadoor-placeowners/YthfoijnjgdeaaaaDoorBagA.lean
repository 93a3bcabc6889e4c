/- What compareLists answers of two lists of rows. -/
import Derived.Test.YthfoijnjgdeaaaaDoorTC
namespace Go.Proofs.YthfoijnjgdeaaaaDoor
open Go.RowKit Go.Lib
set_option linter.unusedVariables false
attribute [local go_sem ↓] Go.wp_at_zero Go.wp_at_succ

/-- The cells of a list of rows. -/
def RowsIs (w : World) (blk off : Nat) (rs : List (Value × List Val)) : Prop :=
  ∀ (j : Nat) (h : j < rs.length), w.cell? ⟨blk, off + j, none⟩ = some rs[j].1 ∧ RowV w rs[j].1 rs[j].2

theorem RowV.slice {w : World} {v : Value} {vs : List Val} (h : RowV w v vs) : ∃ p n c, v = .slice p n c := by
  obtain ⟨_, ⟨p, c, rfl, _⟩ | ⟨b, o, c, rfl, _⟩⟩ := h
  · exact ⟨_, _, _, rfl⟩
  · exact ⟨_, _, _, rfl⟩

set_option maxHeartbeats 1000000 in
theorem bags_some (g : Nat) (cf : List Val → List Val → Int) (Q : World → World → Prop) (hQ : Mild Q) (b1 o1 c1 b2 o2 c2 : Nat) (xs ys : List (Value × List Val)) (w : World)
    (eg : ∀ args w, (callFunc g args).run Tryd.prog w = .ok (.enter g args) w)
    (hg : ∀ v v' x y W, RowV w v x → RowV w v' y → Q w W → Calls Tryd.prog g #[v, v'] W fun e w' => e = .returned (.int .i64 (cf x y)) ∧ Q W w')
    (hx : RowsIs w b1 o1 xs) (hy : RowsIs w b2 o2 ys) (hlx : xs.length ≤ 9223372036854775807) (hly : ys.length ≤ 9223372036854775807) (hb1 : b1 < w.heap.size) (hb2 : b2 < w.heap.size) :
    Calls Tryd.prog 43 #[.slice (some ⟨b1, o1, none⟩) xs.length c1, .slice (some ⟨b2, o2, none⟩) ys.length c2, .func (.func g) #[] #[]] w fun e w' => e = .returned (.int .i64 (lexBy (fun x y => cf x.2 y.2) xs ys)) ∧ Q w w' := by
  have HG : Hid (∀ v v' x y W, RowV w v x → RowV w v' y → Q w W → Calls Tryd.prog g #[v, v'] W fun e w' => e = .returned (.int .i64 (cf x y)) ∧ Q W w') := hg
  clear hg
  go_enter Tryd.func43, Tryd.ntmps43
  go_wp2
  go_loopg [14] xs.length (fun gf s14 wx => ∃ k : Nat, s14 = .int .i64 k ∧ k ≤ xs.length ∧ k ≤ ys.length ∧ Q w wx ∧ lexBy (fun x y => cf x.2 y.2) (xs.drop k) (ys.drop k) = lexBy (fun x y => cf x.2 y.2) xs ys ∧ xs.length ≤ k + gf)
  case atStart => exact ⟨0, rfl, Nat.zero_le _, Nat.zero_le _, hQ.refl w, rfl, by omega⟩
  case round =>
    obtain ⟨k, rfl, hkx, hky, hqw, hleft, hfu⟩ := hrel
    by_cases hlt : k < xs.length ∧ k < ys.length
    · obtain ⟨g', rfl⟩ : ∃ g', gk = g' + 1 := ⟨gk - 1, by omega⟩
      have hm : (k : Int) < min (xs.length : Int) (ys.length : Int) := by omega
      have hz0 : (0 : Int) ≤ (k : Int) := by omega
      have hz1 : (k : Int) < (xs.length : Int) := by omega
      have hz2 : (k : Int) < (ys.length : Int) := by omega
      have hbw := hQ.below _ _ hqw
      obtain ⟨x0, x1⟩ := hx k hlt.1
      obtain ⟨y0, y1⟩ := hy k hlt.2
      rw [← hbw.cell (p := ⟨b1, _, none⟩) hb1] at x0
      rw [← hbw.cell (p := ⟨b2, _, none⟩) hb2] at y0
      have hB1 : b1 < wr.heap.size := Nat.lt_of_lt_of_le hb1 hbw.size
      have hB2 : b2 < wr.heap.size := Nat.lt_of_lt_of_le hb2 hbw.size
      have hat := lexBy_at (fun x y : Value × List Val => cf x.2 y.2) xs ys k hlt.1 hlt.2
      rw [hleft] at hat
      have cG := fun W h => HG.out _ _ _ _ W x1 y1 h
      obtain ⟨p, n, cp, hxv⟩ := x1.slice
      obtain ⟨q, m, cq, hyv⟩ := y1.slice
      rw [hxv, hyv] at cG
      rw [hxv] at x0
      rw [hyv] at y0
      obtain ⟨c, hc⟩ : ∃ c, cf xs[k].2 ys[k].2 = c := ⟨_, rfl⟩
      rw [hc] at cG hat
      have CG : Hid (∀ W, Q w W → Calls Tryd.prog g #[.slice p n cp, .slice q m cq] W fun e w' => e = .returned (.int .i64 c) ∧ Q W w') := cG
      have HA : Hid (lexBy (fun x y : Value × List Val => cf x.2 y.2) xs ys = if c = 0 then lexBy (fun x y : Value × List Val => cf x.2 y.2) (xs.drop (k + 1)) (ys.drop (k + 1)) else c) := hat
      have HW : Hid (Q w wr) := hqw
      clear cG hc hxv hyv hat hleft hqw hx hy hbw x1 y1
      by_cases h0 : c = 0
      · subst h0
        go_wp2
        go_region_held3 (fun w' => w'.cell? ⟨b1, o1 + k, none⟩ = some (.slice p n cp) ∧ w'.cell? ⟨b2, o2 + k, none⟩ = some (.slice q m cq))
          (first | (go_split_ands; refine ⟨?_, ?_⟩ <;> (rw [(hQ.below _ _ hq1).cell (by first | exact hB1 | exact hB2)]; assumption)) | go_keep)
          ((go_at_fn g; refine (CG.out _ (by exact hQ.trans _ _ _ HW.out (hQ.drewN wr 1))).mono ?_; rintro e w1 ⟨rfl, hq1⟩))
        go_wp2
        go_roundg g'
        case measure => omega
        case rel => exact ⟨k + 1, by go_num, hlt.1, hlt.2, hQ.trans _ _ _ (hQ.trans _ _ _ HW.out (hQ.drewN wr 1)) hq1, by have := HA.out; simpa using this.symm, by omega⟩
      · have hb : (c != 0) = true := bne_iff_ne.2 h0
        go_wp2
        go_region_held3 (fun w' => w'.cell? ⟨b1, o1 + k, none⟩ = some (.slice p n cp) ∧ w'.cell? ⟨b2, o2 + k, none⟩ = some (.slice q m cq))
          (first | (go_split_ands; refine ⟨?_, ?_⟩ <;> (rw [(hQ.below _ _ hq1).cell (by first | exact hB1 | exact hB2)]; assumption)) | go_keep)
          ((go_at_fn g; refine (CG.out _ (by exact hQ.trans _ _ _ HW.out (hQ.drewN wr 1))).mono ?_; rintro e w1 ⟨rfl, hq1⟩))
        go_wp2
        go_ret
        exact ⟨retI (by have := HA.out; rw [if_neg h0] at this; exact this.symm), hQ.trans _ _ _ (hQ.trans _ _ _ HW.out (hQ.drewN wr 1)) hq1⟩
    · have hm : ¬ (k : Int) < min (xs.length : Int) (ys.length : Int) := by omega
      rw [lexBy_end (fun x y : Value × List Val => cf x.2 y.2) xs ys k hlt hkx hky] at hleft
      have cC := cmpInt_any (xs.length : Int) (ys.length : Int)
      rw [hleft] at cC
      clear hx hy hleft
      go_wp2_with (go_at_call 60; refine (cC _).mono ?_; rintro e w' ⟨rfl, rfl⟩)
      go_ret
      exact ⟨rfl, hqw⟩
set_option maxHeartbeats 1000000 in
theorem bags_zero (g : Nat) (p q : Option Addr) (c1 c2 : Nat) (w : World) :
    Calls Tryd.prog 43 #[.slice p 0 c1, .slice q 0 c2, .func (.func g) #[] #[]] w fun e w' => e = .returned (.int .i64 0) ∧ w' = w := by
  have cC := cmpInt_any 0 0
  rw [show cmpI 0 0 = 0 from rfl] at cC
  go_enter Tryd.func43, Tryd.ntmps43
  go_wp2
  refine wp_loop_rounds 1 ?_
  rw [rounds_succ]
  go_wp2_with (go_at_call 60; refine (cC _).mono ?_; rintro e w' ⟨rfl, rfl⟩)
  go_ret
  exact ⟨rfl, rfl⟩
end Go.Proofs.YthfoijnjgdeaaaaDoor
