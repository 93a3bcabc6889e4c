/- What the reference's CheckCols answers. -/
import Derived.Test.YthfoijnjgdeaaaaDoorTc
import Derived.Test.YthfoijnjgdeaaaaDoorCkRow
namespace Go.Proofs.YthfoijnjgdeaaaaDoor
open Go.RowKit Go.Lib
set_option linter.unusedVariables false
attribute [local go_sem ↓] Go.wp_at_zero Go.wp_at_succ
set_option maxHeartbeats 1000000 in
theorem colsRef_none (p : Option Addr) (c : Nat) (w : World) :
    Calls Tryd.prog 53 #[.slice p 0 c] w fun e w' => e = .returned (.int .i64 3) ∧ w' = w := by
  go_enter Tryd.func53, Tryd.ntmps53
  go_wp2
  go_ret
  exact ⟨rfl, rfl⟩
set_option maxHeartbeats 1000000 in
theorem colsRef_many (p : Option Addr) (n c : Nat) (w : World) (h : 8 < n) (hn : n ≤ 9223372036854775807) :
    Calls Tryd.prog 53 #[.slice p n c] w fun e w' => e = .returned (.int .i64 3) ∧ w' = w := by
  have t0 : ¬ (n : Int) < 1 := by omega
  have t1 : (8 : Int) < (n : Int) := by omega
  go_enter Tryd.func53, Tryd.ntmps53
  go_wp2
  go_ret
  exact ⟨rfl, rfl⟩
set_option maxRecDepth 100000 in
set_option maxHeartbeats 4000000 in
theorem colsRef_core (b o cap : Nat) (cs : List Col) (w : World) (h : ColsIs w b o cs) (hb : b < w.heap.size) (h0 : cs.length ≠ 0) (h8 : ¬ 8 < cs.length) (hc : cs.length ≤ cap) (R : Int) (HR : Hid (colsGo [] cs = R)) :
    Calls Tryd.prog 53 #[.slice (some ⟨b, o, none⟩) cs.length cap] w fun e w' => e = .returned (.int .i64 R) ∧ Below w.heap.size w w' := by
  have HC : Hid (ColsIs w b o cs) := h
  have t0 : ¬ (cs.length : Int) < 1 := by omega
  have t1 : ¬ (8 : Int) < (cs.length : Int) := by omega
  have CN : Hid (∀ (s : ByteArray) W, Calls Tryd.prog 52 #[.string s] W fun e w' => e = .returned (.int .i64 (nameV s)) ∧ Below W.heap.size W w') := nameRef_any
  clear h
  go_enter Tryd.func53, Tryd.ntmps53
  go_wp2
  go_loopg [18] cs.length (fun gf s18 wx => ∃ i : Nat, s18 = .int .i64 i ∧ i ≤ cs.length ∧ Below w.heap.size w wx ∧ Hid (colsGo (cs.take i) (cs.drop i) = R) ∧ cs.length ≤ i + gf)
  case atStart => exact ⟨0, rfl, by omega, Below.refl _ _, HR, by omega⟩
  case round =>
    obtain ⟨i, rfl, hil, hbw, HG, hgf⟩ := hrel
    by_cases hlt : i < cs.length
    · obtain ⟨g', rfl⟩ : ∃ g', gk = g' + 1 := ⟨gk - 1, by omega⟩
      have hz0 : (0 : Int) ≤ (i : Int) := by omega
      have hz1 : (i : Int) < (cs.length : Int) := by omega
      have hz2 : (i : Int) ≤ (cap : Int) := by omega
      obtain ⟨y0, y1⟩ := HC.out i hlt
      rw [← hbw.cell (p := ⟨b, _, none⟩) hb] at y0 y1
      have hbr : b < wr.heap.size := Nat.lt_of_lt_of_le hb hbw.size
      have hg := HG.out
      rw [colsGo_at cs i hlt] at hg
      obtain ⟨⟨cn, ck⟩, hci⟩ : ∃ x, cs[i] = x := ⟨_, rfl⟩
      rw [hci] at y0 y1 hg
      simp only at y0 y1 hg
      unfold colV at hg
      simp only at hg
      have cn0 := CN.out cn
      obtain ⟨nv, hnv⟩ : ∃ x, nameV cn = x := ⟨_, rfl⟩
      rw [hnv] at cn0
      simp only [hnv] at hg
      have C0 : Hid (∀ W, Calls Tryd.prog 52 #[.string cn] W fun e w' => e = .returned (.int .i64 nv) ∧ Below W.heap.size W w') := cn0
      have HG2 : Hid ((if (if nv = 0 then (if twice cn (cs.take i) = true then (15 : Int) else if 1 ≤ ck ∧ ck ≤ 3 then 0 else 5) else nv) = 0 then colsGo (cs.take (i + 1)) (cs.drop (i + 1)) else (if nv = 0 then (if twice cn (cs.take i) = true then (15 : Int) else if 1 ≤ ck ∧ ck ≤ 3 then 0 else 5) else nv)) = R) := hg
      clear hg cn0 hnv hci HG CN
      go_wp2_with fail
      refine (C0.out _).mono ?_
      rintro e w1 ⟨rfl, hb1⟩
      have z0 : w1.cell? ⟨wr.heap.size, 0, none⟩ = some (.string cn) := by rw [hb1.cell (by simp)]; simp
      have z1 : w1.cell? ⟨wr.heap.size, 1, none⟩ = some (.int .u8 ck) := by rw [hb1.cell (by simp)]; simp
      have hs1 : wr.heap.size + 1 ≤ w1.heap.size := by have := hb1.size; simpa using this
      have hbw1 : Below w.heap.size w w1 := (hbw.alloc hbw.size _).trans (hb1.mono (by have := hbw.size; simp; omega))
      have HB1 : Hid (Below w.heap.size w w1) := hbw1
      clear hb1 hbw1 C0 y0 y1
      by_cases hn : nv = 0
      · subst hn
        simp only [if_true] at HG2
        obtain ⟨V0, hV0⟩ : ∃ V0 : World, V0 = wr := ⟨_, rfl⟩
        subst hV0
        have HL : Hid ((cs.take i).length = i) := by show _ = _; rw [List.length_take]; omega
        go_wp2
        go_loopg [33] i (fun gf s33 wx => ∃ j : Nat, s33 = .int .i64 j ∧ j ≤ i ∧ Below w1.heap.size w1 wx ∧ Hid (twice cn ((cs.take i).drop j) = twice cn (cs.take i)) ∧ i ≤ j + gf)
        case atStart => exact ⟨0, rfl, by omega, Below.refl _ _, (by show _ = _; rfl), by omega⟩
        case round =>
          obtain ⟨j, rfl, hjl, hbj, HD, hgj⟩ := hrel
          have hsr := hbj.size
          by_cases hlj : j < i
          · obtain ⟨e', rfl⟩ : ∃ g', gk = g' + 1 := ⟨gk - 1, by omega⟩
            have hq0 : (0 : Int) ≤ (j : Int) := by omega
            have hq1 : (j : Int) < (i : Int) := by omega
            have hjt : j < (cs.take i).length := by rw [HL.out]; exact hlj
            obtain ⟨y0, y1⟩ := (HC.out.take i) j hjt
            have hww : Below w.heap.size w wr := HB1.out.trans (hbj.mono HB1.out.size)
            rw [← hww.cell (p := ⟨b, _, none⟩) hb] at y0 y1
            have hb2 : b < wr.heap.size := Nat.lt_of_lt_of_le hb hww.size
            have hd := HD.out
            rw [twice_drop cn (cs.take i) j hjt] at hd
            obtain ⟨⟨bn, bk⟩, hbe⟩ : ∃ x, (cs.take i)[j] = x := ⟨_, rfl⟩
            rw [hbe] at y0 y1 hd
            simp only at y0 y1 hd
            have x0 : wr.cell? ⟨V0.heap.size, 0, none⟩ = some (.string cn) := by rw [hbj.cell (by simp; omega)]; exact z0
            have x1 : wr.cell? ⟨V0.heap.size, 1, none⟩ = some (.int .u8 ck) := by rw [hbj.cell (by simp; omega)]; exact z1
            have hlt2 : V0.heap.size < wr.heap.size := by omega
            clear hbe HD hww hjt
            cases hq : bn.toList == cn.toList with
            | true =>
              rw [hq, Bool.true_or] at hd
              have hR : R = 15 := by have := HG2.out; rw [← hd] at this; simp at this; exact this.symm
              subst hR
              clear HG2 hd HC
              go_wp2
              go_ret
              exact ⟨rfl, (HB1.out.trans (hbj.mono HB1.out.size)).alloc (by have := HB1.out.size; omega) _⟩
            | false =>
              rw [hq, Bool.false_or] at hd
              have HD2 : Hid (twice cn ((cs.take i).drop (j + 1)) = twice cn (cs.take i)) := hd
              clear hd
              go_wp2
              go_roundg e'
              case measure => omega
              case rel => exact ⟨j + 1, by go_num, by omega, hbj.alloc hsr _, HD2, by omega⟩
          · have hlt' : ¬ (j : Int) < (i : Int) := by omega
            have hf : twice cn (cs.take i) = false := by rw [← HD.out, List.drop_of_length_le (by rw [HL.out]; omega)]; rfl
            have hR1 := HG2.out
            rw [hf] at hR1
            simp only [Bool.false_eq_true, if_false] at hR1
            have x1 : wr.cell? ⟨V0.heap.size, 1, none⟩ = some (.int .u8 ck) := by rw [hbj.cell (by simp; omega)]; exact z1
            have hlt2 : V0.heap.size < wr.heap.size := by omega
            have HF : Hid (Below w.heap.size w wr) := HB1.out.trans (hbj.mono HB1.out.size)
            have HR1 : Hid ((if (if 1 ≤ ck ∧ ck ≤ 3 then (0 : Int) else 5) = 0 then colsGo (cs.take (i + 1)) (cs.drop (i + 1)) else (if 1 ≤ ck ∧ ck ≤ 3 then (0 : Int) else 5)) = R) := hR1
            clear HD hf HG2 HC hR1
            by_cases k1 : 1 ≤ ck
            · have t2 : ¬ ck < 1 := by omega
              by_cases k3 : ck ≤ 3
              · have t3 : ¬ 4 ≤ ck := by omega
                have t4 : decide (4 ≤ ck) = false := by simpa using t3
                have HR2 : Hid (colsGo (cs.take (i + 1)) (cs.drop (i + 1)) = R) := by have := HR1.out; rw [if_pos (show 1 ≤ ck ∧ ck ≤ 3 from ⟨k1, k3⟩), if_pos rfl] at this; exact this
                clear HR1
                go_wp2
                go_roundg g'
                case measure => omega
                case rel => exact ⟨i + 1, by go_num, by omega, HF.out, HR2, by omega⟩
              · have t3 : 4 ≤ ck := by omega
                have t4 : decide (4 ≤ ck) = true := by simpa using t3
                have hR : R = 5 := by have := HR1.out; rw [if_neg (show ¬ (1 ≤ ck ∧ ck ≤ 3) by omega)] at this; simp at this; exact this.symm
                subst hR
                clear HR1
                go_wp2
                go_ret
                exact ⟨rfl, HF.out⟩
            · have t2 : ck < 1 := by omega
              have hR : R = 5 := by have := HR1.out; rw [if_neg (show ¬ (1 ≤ ck ∧ ck ≤ 3) by omega)] at this; simp at this; exact this.symm
              subst hR
              clear HR1
              go_wp2
              go_ret
              exact ⟨rfl, HF.out⟩
      · have t2 : (nv != 0) = true := bne_iff_ne.2 hn
        have hR : nv = R := by have := HG2.out; rwa [if_neg hn, if_neg hn] at this
        subst hR
        clear HG2 hn
        go_wp2
        go_ret
        exact ⟨rfl, HB1.out⟩
    · have hlt' : ¬ (i : Int) < (cs.length : Int) := by omega
      have hR : 0 = R := by have := HG.out; rw [List.drop_of_length_le (by omega)] at this; exact this
      subst hR
      clear HG HR
      go_wp2
      go_ret
      exact ⟨rfl, hbw⟩
end Go.Proofs.YthfoijnjgdeaaaaDoor
/- What the reference's CheckRow answers. -/
namespace Go.Proofs.YthfoijnjgdeaaaaDoor
open Go.RowKit Go.Lib
set_option linter.unusedVariables false
attribute [local go_sem ↓] Go.wp_at_zero Go.wp_at_succ
theorem rowRef_many (p q : Option Addr) (n m c1 c2 : Nat) (w : World) (h : n ≠ m) (hn : n ≤ 9223372036854775807) (hm : m ≤ 9223372036854775807) :
    Calls Tryd.prog 54 #[.slice p n c1, .slice q m c2] w fun e w' => e = .returned (.int .i64 3) ∧ w' = w := by
  have hz : ((n : Int) != (m : Int)) = true := bne_iff_ne.2 (by omega)
  clear h
  go_enter Tryd.func54, Tryd.ntmps54
  go_wp2
  go_ret
  exact ⟨rfl, rfl⟩
theorem rowRef_zero (p q : Option Addr) (c1 c2 : Nat) (w : World) :
    Calls Tryd.prog 54 #[.slice p 0 c1, .slice q 0 c2] w fun e w' => e = .returned (.int .i64 0) ∧ w' = w := by
  go_enter Tryd.func54, Tryd.ntmps54
  go_wp2
  refine wp_loop_rounds 1 ?_
  rw [rounds_succ]
  go_wp2
  go_ret
  exact ⟨rfl, rfl⟩
set_option maxHeartbeats 4000000 in
theorem rowRef_some (b1 o1 c1 b2 o2 c2 : Nat) (xs : List Val) (ks : List Int) (w : World) (hl : ks.length = xs.length) (hx : RowIs w b1 o1 xs) (hy : ColIs w b2 o2 ks) (hlx : xs.length ≤ 9223372036854775807)
    (hb1 : b1 < w.heap.size) (hb2 : b2 < w.heap.size) :
    Calls Tryd.prog 54 #[.slice (some ⟨b1, o1, none⟩) xs.length c1, .slice (some ⟨b2, o2, none⟩) xs.length c2] w fun e w' => e = .returned (.int .i64 (chkRow xs ks)) ∧ Below w.heap.size w w' := by
  have HL : Hid (ks.length = xs.length) := hl
  clear hl
  go_enter Tryd.func54, Tryd.ntmps54
  go_wp2
  go_loopg [15] xs.length (fun gf s15 wx => ∃ k : Nat, s15 = .int .i64 k ∧ k ≤ xs.length ∧ Below w.heap.size w wx ∧ chkRow (xs.drop k) (ks.drop k) = chkRow xs ks ∧ xs.length ≤ k + gf)
  case atStart => exact ⟨0, rfl, Nat.zero_le _, Below.refl _ _, rfl, by omega⟩
  case round =>
    obtain ⟨k, rfl, hkx, hqw, hleft, hfu⟩ := hrel
    by_cases hlt : k < xs.length
    · obtain ⟨g', rfl⟩ : ∃ g', gk = g' + 1 := ⟨gk - 1, by omega⟩
      have hz0 : (0 : Int) ≤ (k : Int) := by omega
      have hz1 : (k : Int) < (xs.length : Int) := by omega
      obtain ⟨x0, x1, x2, x3⟩ := hx k hlt
      have y0 := hy k (by rw [HL.out]; exact hlt)
      rw [← hqw.cell (p := ⟨b1, _, none⟩) hb1] at x0 x1 x2 x3
      rw [← hqw.cell (p := ⟨b2, _, none⟩) hb2] at y0
      have hB1 : b1 < wr.heap.size := Nat.lt_of_lt_of_le hb1 hqw.size
      have hB2 : b2 < wr.heap.size := Nat.lt_of_lt_of_le hb2 hqw.size
      have hat := chkRow_at xs ks k hlt (by rw [HL.out]; exact hlt)
      rw [hleft] at hat
      have cG := fun W => checkRef_all xs[k] W
      obtain ⟨⟨xk, xb, xn, xsx⟩, hxv⟩ : ∃ v, xs[k] = v := ⟨_, rfl⟩
      obtain ⟨ck, hck⟩ : ∃ v, ks[k]'(by rw [HL.out]; exact hlt) = v := ⟨_, rfl⟩
      rw [hxv] at cG hat x0 x1 x2 x3
      rw [hck] at hat y0
      simp only [Val.agg] at cG x0 x1 x2 x3
      obtain ⟨c, hc⟩ : ∃ c, chkV ⟨xk, xb, xn, xsx⟩ = c := ⟨_, rfl⟩
      rw [hc] at cG hat
      have CG : Hid (∀ W, Calls Tryd.prog 81 #[.agg #[.int .u8 xk, .bool xb, .int .i64 xn, .string xsx]] W fun e w' => e = .returned (.int .i64 c) ∧ Below W.heap.size W w') := cG
      have HA : Hid (chkRow xs ks = if c = 0 then (if xk ≠ 0 ∧ xk ≠ ck then 5 else chkRow (xs.drop (k + 1)) (ks.drop (k + 1))) else c) := hat
      have HW : Hid (Below w.heap.size w wr) := hqw
      clear cG hc hxv hck hat hleft hqw hx hy
      go_wp2_with fail
      refine (CG.out _).mono ?_
      rintro e w1 ⟨rfl, hb⟩
      have z0 : w1.cell? ⟨wr.heap.size, 0, none⟩ = some (.int .u8 xk) := by rw [hb.cell (by simp)]; exact cell_own wr _ _ _ _ rfl
      have y1 : w1.cell? ⟨b2, o2 + k * 2 + 1, none⟩ = some (.int .u8 ck) := by
        rw [hb.cell (by simp; omega), ((Below.refl _ wr).alloc (Nat.le_refl _) _).cell (by simpa using hB2)]; exact y0
      have HK : Hid (Below w.heap.size w w1) := (HW.out.alloc HW.out.size _).trans (hb.mono (by have := HW.out.size; simp; omega))
      clear hb HW x0 x1 x2 x3 y0
      by_cases h0 : c = 0
      · subst h0
        by_cases hk0 : xk = 0
        · subst hk0
          go_wp2
          go_quiet (fail)
          go_wp2
          go_roundg g'
          case measure => omega
          case rel => exact ⟨k + 1, by go_num, hlt, below_drewN HK.out _, by have := HA.out; simpa using this.symm, by omega⟩
        · have hne : (xk != 0) = true := bne_iff_ne.2 hk0
          by_cases hkc : xk = ck
          · subst hkc
            have hnn : (xk != xk) = false := by simp
            go_wp2
            go_quiet (fail)
            go_wp2
            go_roundg g'
            case measure => omega
            case rel => exact ⟨k + 1, by go_num, hlt, below_drewN HK.out _, by have := HA.out; simpa using this.symm, by omega⟩
          · have hnn : (xk != ck) = true := bne_iff_ne.2 hkc
            go_wp2
            go_quiet (fail)
            go_wp2
            go_ret
            exact ⟨retI (by have := HA.out; simp [hk0, hkc] at this; exact this.symm), below_drewN HK.out _⟩
      · have hb' : (c != 0) = true := bne_iff_ne.2 h0
        have hb'' : (c == 0) = false := beq_eq_false_iff_ne.2 h0
        go_wp2
        go_quiet (fail)
        go_wp2
        go_ret
        exact ⟨retI (by have := HA.out; rw [if_neg h0] at this; exact this.symm), below_drewN HK.out _⟩
    · have hm : ¬ (k : Int) < (xs.length : Int) := by omega
      have hz : chkRow xs ks = 0 := by
        rw [← hleft, List.drop_of_length_le (by omega)]; rfl
      have HZ : Hid (chkRow xs ks = 0) := hz
      clear hx hy hleft hz
      go_wp2
      go_ret
      exact ⟨retI HZ.out.symm, hqw⟩
end Go.Proofs.YthfoijnjgdeaaaaDoor
/- What CheckCols and CheckRow answer, of any columns, any row. -/
namespace Go.Proofs.YthfoijnjgdeaaaaDoor
open Go.RowKit Go.Lib
set_option linter.unusedVariables false

/-- A row, whatever its slice is. -/
def RowA (w : World) (v : Value) (xs : List Val) : Prop :=
  ∃ p c, v = .slice p xs.length c ∧ xs.length ≤ 9223372036854775807 ∧ (∀ x ∈ xs, x.s.size ≤ 9223372036854775807) ∧ (0 < xs.length → ∃ b o, p = some ⟨b, o, none⟩ ∧ RowIs w b o xs ∧ b < w.heap.size)
/-- Columns, whatever their slice is. -/
def ColA (w : World) (v : Value) (cs : List Col) : Prop :=
  ∃ p c, v = .slice p cs.length c ∧ cs.length ≤ c ∧ cs.length ≤ 9223372036854775807 ∧ (∀ x ∈ cs, x.name.size ≤ 9223372036854775807) ∧ (0 < cs.length → ∃ b o, p = some ⟨b, o, none⟩ ∧ ColsIs w b o cs ∧ b < w.heap.size)
theorem RowA.below {w W : World} {v : Value} {xs : List Val} (h : RowA w v xs) (hb : Below w.heap.size w W) : RowA W v xs := by
  obtain ⟨p, c, rfl, h1, h2, h3⟩ := h
  refine ⟨p, c, rfl, h1, h2, fun h0 => ?_⟩
  obtain ⟨b, o, rfl, hr, hlt⟩ := h3 h0
  refine ⟨b, o, rfl, fun j hj => ?_, Nat.lt_of_lt_of_le hlt hb.size⟩
  rw [hb.cell hlt, hb.cell hlt, hb.cell hlt, hb.cell hlt]
  exact hr j hj
theorem ColA.below {w W : World} {v : Value} {cs : List Col} (h : ColA w v cs) (hb : Below w.heap.size w W) : ColA W v cs := by
  obtain ⟨p, c, rfl, h1, h2, h3, h4⟩ := h
  refine ⟨p, c, rfl, h1, h2, h3, fun h0 => ?_⟩
  obtain ⟨b, o, rfl, hr, hlt⟩ := h4 h0
  exact ⟨b, o, rfl, hr.below hb hlt, Nat.lt_of_lt_of_le hlt hb.size⟩
theorem cols_all {w : World} {v : Value} {cs : List Col} (h : ColA w v cs) (hT : Lib.Utf8Tabs 0 1 w) :
    Calls Tryd.prog 49 #[v] w fun e w' => e = .returned (.int .i64 (colsV cs)) ∧ Below w.heap.size w w' := by
  obtain ⟨p, c, rfl, hc, hl, hs, hx⟩ := h
  unfold colsV
  by_cases h0 : cs.length = 0
  · rw [if_pos (.inl h0), h0]
    exact (checkCols_none p c w).mono fun e w' ⟨he, hw⟩ => ⟨he, by rw [hw]; exact Below.refl _ _⟩
  by_cases h8 : 8 < cs.length
  · rw [if_pos (.inr h8)]
    exact (checkCols_many p _ c w h8 hl).mono fun e w' ⟨he, hw⟩ => ⟨he, by rw [hw]; exact Below.refl _ _⟩
  rw [if_neg (by omega)]
  obtain ⟨b, o, rfl, hr, hlt⟩ := hx (by omega)
  exact checkCols_core b o c cs w hr hlt h0 h8 hc hs hT _ (by show _ = _; rfl)
theorem colsRef_all {w : World} {v : Value} {cs : List Col} (h : ColA w v cs) :
    Calls Tryd.prog 53 #[v] w fun e w' => e = .returned (.int .i64 (colsV cs)) ∧ Below w.heap.size w w' := by
  obtain ⟨p, c, rfl, hc, hl, hs, hx⟩ := h
  unfold colsV
  by_cases h0 : cs.length = 0
  · rw [if_pos (.inl h0), h0]
    exact (colsRef_none p c w).mono fun e w' ⟨he, hw⟩ => ⟨he, by rw [hw]; exact Below.refl _ _⟩
  by_cases h8 : 8 < cs.length
  · rw [if_pos (.inr h8)]
    exact (colsRef_many p _ c w h8 hl).mono fun e w' ⟨he, hw⟩ => ⟨he, by rw [hw]; exact Below.refl _ _⟩
  rw [if_neg (by omega)]
  obtain ⟨b, o, rfl, hr, hlt⟩ := hx (by omega)
  exact colsRef_core b o c cs w hr hlt h0 h8 hc _ (by show _ = _; rfl)
/-- Why a row is none of columns. -/
def rowV (xs : List Val) (cs : List Col) : Int := if xs.length = cs.length then chkRow xs (cs.map Col.k) else 3
theorem kinds_of {w : World} {b o : Nat} {cs : List Col} (h : ColsIs w b o cs) : ColIs w b o (cs.map Col.k) := by
  intro j hj
  rw [List.length_map] at hj
  rw [List.getElem_map]
  exact (h j hj).2
theorem row_all {w : World} {u v : Value} {xs : List Val} {cs : List Col} (hu : RowA w u xs) (hv : ColA w v cs) (hT : Lib.Utf8Tabs 0 1 w) :
    Calls Tryd.prog 50 #[u, v] w fun e w' => e = .returned (.int .i64 (rowV xs cs)) ∧ Below w.heap.size w w' := by
  obtain ⟨p, c, rfl, hl, hs, hx⟩ := hu
  obtain ⟨q, d, rfl, hc, hm, ht, hy⟩ := hv
  unfold rowV
  by_cases h : xs.length = cs.length
  · rw [if_pos h]
    by_cases h0 : 0 < xs.length
    · obtain ⟨b1, o1, rfl, hr, hlt⟩ := hx h0
      obtain ⟨b2, o2, rfl, hk, hlt2⟩ := hy (by omega)
      rw [← h]
      exact checkRow_some b1 o1 c b2 o2 d xs (cs.map Col.k) w (by rw [List.length_map]; exact h.symm) hr (kinds_of hk) hl hlt hlt2 hs hT
    · have e1 : xs = [] := List.eq_nil_of_length_eq_zero (by omega)
      have e2 : cs = [] := List.eq_nil_of_length_eq_zero (by omega)
      subst e1 e2
      exact (checkRow_zero p q c d w).mono fun e w' ⟨he, hw⟩ => ⟨he, by rw [hw]; exact Below.refl _ _⟩
  · rw [if_neg h]
    exact (checkRow_many p q _ _ c d w h hl hm).mono fun e w' ⟨he, hw⟩ => ⟨he, by rw [hw]; exact Below.refl _ _⟩
theorem rowRef_all {w : World} {u v : Value} {xs : List Val} {cs : List Col} (hu : RowA w u xs) (hv : ColA w v cs) :
    Calls Tryd.prog 54 #[u, v] w fun e w' => e = .returned (.int .i64 (rowV xs cs)) ∧ Below w.heap.size w w' := by
  obtain ⟨p, c, rfl, hl, hs, hx⟩ := hu
  obtain ⟨q, d, rfl, hc, hm, ht, hy⟩ := hv
  unfold rowV
  by_cases h : xs.length = cs.length
  · rw [if_pos h]
    by_cases h0 : 0 < xs.length
    · obtain ⟨b1, o1, rfl, hr, hlt⟩ := hx h0
      obtain ⟨b2, o2, rfl, hk, hlt2⟩ := hy (by omega)
      rw [← h]
      exact rowRef_some b1 o1 c b2 o2 d xs (cs.map Col.k) w (by rw [List.length_map]; exact h.symm) hr (kinds_of hk) hl hlt hlt2
    · have e1 : xs = [] := List.eq_nil_of_length_eq_zero (by omega)
      have e2 : cs = [] := List.eq_nil_of_length_eq_zero (by omega)
      subst e1 e2
      exact (rowRef_zero p q c d w).mono fun e w' ⟨he, hw⟩ => ⟨he, by rw [hw]; exact Below.refl _ _⟩
  · rw [if_neg h]
    exact (rowRef_many p q _ _ c d w h hl hm).mono fun e w' ⟨he, hw⟩ => ⟨he, by rw [hw]; exact Below.refl _ _⟩
end Go.Proofs.YthfoijnjgdeaaaaDoor
