/- What the reference's CheckCols answers. -/
import Derived.Test.YthfoijnjgdeaaaaDoorTc
namespace Go.Proofs.YthfoijnjgdeaaaaDoor
open Go.RowKit Go.Lib
set_option linter.unusedVariables false
attribute [local go_sem ↓] Go.wp_at_zero Go.wp_at_succ
set_option maxHeartbeats 1000000 in
theorem colsRef_none (p : Option Addr) (c : Nat) (w : World) :
    Calls Tryd.prog 53 #[.slice p 0 c] w fun e w' => e = .returned (.int .i64 3) ∧ w' = w := by
  go_enter Tryd.func53, Tryd.ntmps53
  go_wp2
  go_ret
  exact ⟨rfl, rfl⟩
set_option maxHeartbeats 1000000 in
theorem colsRef_many (p : Option Addr) (n c : Nat) (w : World) (h : 8 < n) (hn : n ≤ 9223372036854775807) :
    Calls Tryd.prog 53 #[.slice p n c] w fun e w' => e = .returned (.int .i64 3) ∧ w' = w := by
  have t0 : ¬ (n : Int) < 1 := by omega
  have t1 : (8 : Int) < (n : Int) := by omega
  go_enter Tryd.func53, Tryd.ntmps53
  go_wp2
  go_ret
  exact ⟨rfl, rfl⟩
set_option maxRecDepth 100000 in
set_option maxHeartbeats 4000000 in
theorem colsRef_core (b o cap : Nat) (cs : List Col) (w : World) (h : ColsIs w b o cs) (hb : b < w.heap.size) (h0 : cs.length ≠ 0) (h8 : ¬ 8 < cs.length) (hc : cs.length ≤ cap) (R : Int) (HR : Hid (colsGo [] cs = R)) :
    Calls Tryd.prog 53 #[.slice (some ⟨b, o, none⟩) cs.length cap] w fun e w' => e = .returned (.int .i64 R) ∧ Below w.heap.size w w' := by
  have HC : Hid (ColsIs w b o cs) := h
  have t0 : ¬ (cs.length : Int) < 1 := by omega
  have t1 : ¬ (8 : Int) < (cs.length : Int) := by omega
  have CN : Hid (∀ (s : ByteArray) W, Calls Tryd.prog 52 #[.string s] W fun e w' => e = .returned (.int .i64 (nameV s)) ∧ Below W.heap.size W w') := nameRef_any
  clear h
  go_enter Tryd.func53, Tryd.ntmps53
  go_wp2
  go_loopg [18] cs.length (fun gf s18 wx => ∃ i : Nat, s18 = .int .i64 i ∧ i ≤ cs.length ∧ Below w.heap.size w wx ∧ Hid (colsGo (cs.take i) (cs.drop i) = R) ∧ cs.length ≤ i + gf)
  case atStart => exact ⟨0, rfl, by omega, Below.refl _ _, HR, by omega⟩
  case round =>
    obtain ⟨i, rfl, hil, hbw, HG, hgf⟩ := hrel
    by_cases hlt : i < cs.length
    · obtain ⟨g', rfl⟩ : ∃ g', gk = g' + 1 := ⟨gk - 1, by omega⟩
      have hz0 : (0 : Int) ≤ (i : Int) := by omega
      have hz1 : (i : Int) < (cs.length : Int) := by omega
      have hz2 : (i : Int) ≤ (cap : Int) := by omega
      obtain ⟨y0, y1⟩ := HC.out i hlt
      rw [← hbw.cell (p := ⟨b, _, none⟩) hb] at y0 y1
      have hbr : b < wr.heap.size := Nat.lt_of_lt_of_le hb hbw.size
      have hg := HG.out
      rw [colsGo_at cs i hlt] at hg
      obtain ⟨⟨cn, ck⟩, hci⟩ : ∃ x, cs[i] = x := ⟨_, rfl⟩
      rw [hci] at y0 y1 hg
      simp only at y0 y1 hg
      unfold colV at hg
      simp only at hg
      have cn0 := CN.out cn
      obtain ⟨nv, hnv⟩ : ∃ x, nameV cn = x := ⟨_, rfl⟩
      rw [hnv] at cn0
      simp only [hnv] at hg
      have C0 : Hid (∀ W, Calls Tryd.prog 52 #[.string cn] W fun e w' => e = .returned (.int .i64 nv) ∧ Below W.heap.size W w') := cn0
      have HG2 : Hid ((if (if nv = 0 then (if twice cn (cs.take i) = true then (15 : Int) else if 1 ≤ ck ∧ ck ≤ 3 then 0 else 5) else nv) = 0 then colsGo (cs.take (i + 1)) (cs.drop (i + 1)) else (if nv = 0 then (if twice cn (cs.take i) = true then (15 : Int) else if 1 ≤ ck ∧ ck ≤ 3 then 0 else 5) else nv)) = R) := hg
      clear hg cn0 hnv hci HG CN
      go_wp2_with fail
      refine (C0.out _).mono ?_
      rintro e w1 ⟨rfl, hb1⟩
      have z0 : w1.cell? ⟨wr.heap.size, 0, none⟩ = some (.string cn) := by rw [hb1.cell (by simp)]; simp
      have z1 : w1.cell? ⟨wr.heap.size, 1, none⟩ = some (.int .u8 ck) := by rw [hb1.cell (by simp)]; simp
      have hs1 : wr.heap.size + 1 ≤ w1.heap.size := by have := hb1.size; simpa using this
      have hbw1 : Below w.heap.size w w1 := (hbw.alloc hbw.size _).trans (hb1.mono (by have := hbw.size; simp; omega))
      have HB1 : Hid (Below w.heap.size w w1) := hbw1
      clear hb1 hbw1 C0 y0 y1
      by_cases hn : nv = 0
      · subst hn
        simp only [if_true] at HG2
        obtain ⟨V0, hV0⟩ : ∃ V0 : World, V0 = wr := ⟨_, rfl⟩
        subst hV0
        have HL : Hid ((cs.take i).length = i) := by show _ = _; rw [List.length_take]; omega
        go_wp2
        go_loopg [33] i (fun gf s33 wx => ∃ j : Nat, s33 = .int .i64 j ∧ j ≤ i ∧ Below w1.heap.size w1 wx ∧ Hid (twice cn ((cs.take i).drop j) = twice cn (cs.take i)) ∧ i ≤ j + gf)
        case atStart => exact ⟨0, rfl, by omega, Below.refl _ _, (by show _ = _; rfl), by omega⟩
        case round =>
          obtain ⟨j, rfl, hjl, hbj, HD, hgj⟩ := hrel
          have hsr := hbj.size
          by_cases hlj : j < i
          · obtain ⟨e', rfl⟩ : ∃ g', gk = g' + 1 := ⟨gk - 1, by omega⟩
            have hq0 : (0 : Int) ≤ (j : Int) := by omega
            have hq1 : (j : Int) < (i : Int) := by omega
            have hjt : j < (cs.take i).length := by rw [HL.out]; exact hlj
            obtain ⟨y0, y1⟩ := (HC.out.take i) j hjt
            have hww : Below w.heap.size w wr := HB1.out.trans (hbj.mono HB1.out.size)
            rw [← hww.cell (p := ⟨b, _, none⟩) hb] at y0 y1
            have hb2 : b < wr.heap.size := Nat.lt_of_lt_of_le hb hww.size
            have hd := HD.out
            rw [twice_drop cn (cs.take i) j hjt] at hd
            obtain ⟨⟨bn, bk⟩, hbe⟩ : ∃ x, (cs.take i)[j] = x := ⟨_, rfl⟩
            rw [hbe] at y0 y1 hd
            simp only at y0 y1 hd
            have x0 : wr.cell? ⟨V0.heap.size, 0, none⟩ = some (.string cn) := by rw [hbj.cell (by simp; omega)]; exact z0
            have x1 : wr.cell? ⟨V0.heap.size, 1, none⟩ = some (.int .u8 ck) := by rw [hbj.cell (by simp; omega)]; exact z1
            have hlt2 : V0.heap.size < wr.heap.size := by omega
            clear hbe HD hww hjt
            cases hq : bn.toList == cn.toList with
            | true =>
              rw [hq, Bool.true_or] at hd
              have hR : R = 15 := by have := HG2.out; rw [← hd] at this; simp at this; exact this.symm
              subst hR
              clear HG2 hd HC
              go_wp2
              go_ret
              exact ⟨rfl, (HB1.out.trans (hbj.mono HB1.out.size)).alloc (by have := HB1.out.size; omega) _⟩
            | false =>
              rw [hq, Bool.false_or] at hd
              have HD2 : Hid (twice cn ((cs.take i).drop (j + 1)) = twice cn (cs.take i)) := hd
              clear hd
              go_wp2
              go_roundg e'
              case measure => omega
              case rel => exact ⟨j + 1, by go_num, by omega, hbj.alloc hsr _, HD2, by omega⟩
          · have hlt' : ¬ (j : Int) < (i : Int) := by omega
            have hf : twice cn (cs.take i) = false := by rw [← HD.out, List.drop_of_length_le (by rw [HL.out]; omega)]; rfl
            have hR1 := HG2.out
            rw [hf] at hR1
            simp only [Bool.false_eq_true, if_false] at hR1
            have x1 : wr.cell? ⟨V0.heap.size, 1, none⟩ = some (.int .u8 ck) := by rw [hbj.cell (by simp; omega)]; exact z1
            have hlt2 : V0.heap.size < wr.heap.size := by omega
            have HF : Hid (Below w.heap.size w wr) := HB1.out.trans (hbj.mono HB1.out.size)
            have HR1 : Hid ((if (if 1 ≤ ck ∧ ck ≤ 3 then (0 : Int) else 5) = 0 then colsGo (cs.take (i + 1)) (cs.drop (i + 1)) else (if 1 ≤ ck ∧ ck ≤ 3 then (0 : Int) else 5)) = R) := hR1
            clear HD hf HG2 HC hR1
            by_cases k1 : 1 ≤ ck
            · have t2 : ¬ ck < 1 := by omega
              by_cases k3 : ck ≤ 3
              · have t3 : ¬ 4 ≤ ck := by omega
                have t4 : decide (4 ≤ ck) = false := by simpa using t3
                have HR2 : Hid (colsGo (cs.take (i + 1)) (cs.drop (i + 1)) = R) := by have := HR1.out; rw [if_pos (show 1 ≤ ck ∧ ck ≤ 3 from ⟨k1, k3⟩), if_pos rfl] at this; exact this
                clear HR1
                go_wp2
                go_roundg g'
                case measure => omega
                case rel => exact ⟨i + 1, by go_num, by omega, HF.out, HR2, by omega⟩
              · have t3 : 4 ≤ ck := by omega
                have t4 : decide (4 ≤ ck) = true := by simpa using t3
                have hR : R = 5 := by have := HR1.out; rw [if_neg (show ¬ (1 ≤ ck ∧ ck ≤ 3) by omega)] at this; simp at this; exact this.symm
                subst hR
                clear HR1
                go_wp2
                go_ret
                exact ⟨rfl, HF.out⟩
            · have t2 : ck < 1 := by omega
              have hR : R = 5 := by have := HR1.out; rw [if_neg (show ¬ (1 ≤ ck ∧ ck ≤ 3) by omega)] at this; simp at this; exact this.symm
              subst hR
              clear HR1
              go_wp2
              go_ret
              exact ⟨rfl, HF.out⟩
      · have t2 : (nv != 0) = true := bne_iff_ne.2 hn
        have hR : nv = R := by have := HG2.out; rwa [if_neg hn, if_neg hn] at this
        subst hR
        clear HG2 hn
        go_wp2
        go_ret
        exact ⟨rfl, HB1.out⟩
    · have hlt' : ¬ (i : Int) < (cs.length : Int) := by omega
      have hR : 0 = R := by have := HG.out; rw [List.drop_of_length_le (by omega)] at this; exact this
      subst hR
      clear HG HR
      go_wp2
      go_ret
      exact ⟨rfl, hbw⟩
end Go.Proofs.YthfoijnjgdeaaaaDoor
