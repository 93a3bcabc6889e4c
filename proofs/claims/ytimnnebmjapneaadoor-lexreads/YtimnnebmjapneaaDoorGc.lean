/- What the reference's escape answers. -/
import Derived.Test.YtimnnebmjapneaaDoorGb
namespace Go.Proofs.YtimnnebmjapneaaDoor
open Go.RowKit Go.Lib
set_option linter.unusedVariables false
attribute [local go_sem ↓] Go.wp_at_zero Go.wp_at_succ
/-- Bounds of seven digits. -/
def hexTop7 : Nat → Int
  | 0 => 268435456
  | n + 1 => hexTop n
theorem hexTop7_step {n : Nat} {x d : Int} (hn : n < 7) (hx : 0 ≤ x ∧ x < hexTop7 (n + 1)) (hd : 0 ≤ d ∧ d < 16) : 0 ≤ 16 * x + d ∧ 16 * x + d < hexTop7 n := by
  match n, hn with
  | 0, _ => simp only [hexTop7, hexTop] at hx ⊢; omega
  | 1, _ => simp only [hexTop7, hexTop] at hx ⊢; omega
  | 2, _ => simp only [hexTop7, hexTop] at hx ⊢; omega
  | 3, _ => simp only [hexTop7, hexTop] at hx ⊢; omega
  | 4, _ => simp only [hexTop7, hexTop] at hx ⊢; omega
  | 5, _ => simp only [hexTop7, hexTop] at hx ⊢; omega
  | 6, _ => simp only [hexTop7, hexTop] at hx ⊢; omega
theorem hexTop7_le (n : Nat) : hexTop7 n ≤ 268435456 := by
  match n with
  | 0 => simp [hexTop7]
  | n + 1 => have := hexTop_le n; simp only [hexTop7]; omega
theorem hexTop7_le1 (n : Nat) : hexTop7 (n + 1) ≤ 16777216 := hexTop_le n
/-- .. told of a number of so many digits. -/
def refT (m : List Let) (k : Nat) (x : Int) : Int × Nat :=
  if k = 0 ∨ k = 7 then (0, 0) else match m.drop k with
    | [] => (0, 0)
    | d :: _ => if d.1 ≠ 125 ∨ isRuneP x = false then (0, 0) else (x, k + 3)
theorem refH_T (m : List Let) (k : Nat) (x : Int) (h1 : (hexGo 7 0 m).1 = x) (h2 : (hexGo 7 0 m).2 = k) : refH m = refT m k x := by
  subst h1 h2
  rfl
def pairE (p : Int × Nat) : Value := .tuple #[.int .i32 p.1, .int .i64 p.2]
set_option maxRecDepth 100000 in
set_option maxHeartbeats 4000000 in
theorem escapeR_any (p : Option Addr) (c : Nat) (ls : List Let) (w : World) (hg : GA w p ls) (hl : ls.length ≤ 2048) (hr : ∀ x ∈ ls, -2147483648 ≤ x.1 ∧ x.1 ≤ 2147483647) (T : Int × Nat) (HT : Hid (refE ls = T)) :
    Calls Tryd.prog 38 #[.slice p ls.length c] w fun e w' => e = .returned (pairE T) ∧ w' = w := by
  cases ls with
  | nil =>
    have hT := HT.out
    obtain rfl : (0, 0) = T := by rw [← hT]; rfl
    clear HT hT hg hr
    go_enter Tryd.func38, Tryd.ntmps38
    go_wp2
    go_ret2
    exact ⟨rfl, rfl⟩
  | cons c0 m =>
    obtain ⟨b, o, rfl, hb, hc⟩ := hg (by simp)
    have hlen : ((c0 :: m).length : Int) = (m.length : Int) + 1 := by simp
    obtain ⟨L, hL⟩ : ∃ L, (c0 :: m).length = L := ⟨_, rfl⟩
    have hLm : L = m.length + 1 := by rw [← hL]; simp
    obtain ⟨x0, x1⟩ := hc 0 (by simp)
    simp only [Nat.zero_mul, Nat.add_zero, List.getElem_cons_zero] at x0 x1
    have hT := HT.out
    obtain ⟨r, bd⟩ := c0
    simp only at x0 x1
    have tl : ((L : Int) == 0) = false := beq_eq_false_iff_ne.2 (by omega)
    have tz : (0 : Int) < (L : Int) := by omega
    rw [hL] at hl ⊢
    clear HT hlen hL
    by_cases h34 : r = 34
    · subst h34
      obtain rfl : (34, 1) = T := by rw [← hT]; simp [refE, escL]
      clear hT hc
      go_enter Tryd.func38, Tryd.ntmps38
      go_wp2
      go_ret2
      exact ⟨rfl, rfl⟩
    have t34 : (r == 34) = false := beq_eq_false_iff_ne.2 h34
    by_cases h92 : r = 92
    · subst h92
      obtain rfl : (92, 1) = T := by rw [← hT]; simp [refE, escL]
      clear hT hc
      go_enter Tryd.func38, Tryd.ntmps38
      go_wp2
      go_ret2
      exact ⟨rfl, rfl⟩
    have t92 : (r == 92) = false := beq_eq_false_iff_ne.2 h92
    by_cases h110 : r = 110
    · subst h110
      obtain rfl : (10, 1) = T := by rw [← hT]; simp [refE, escL]
      clear hT hc
      go_enter Tryd.func38, Tryd.ntmps38
      go_wp2
      go_ret2
      exact ⟨rfl, rfl⟩
    have t110 : (r == 110) = false := beq_eq_false_iff_ne.2 h110
    by_cases h116 : r = 116
    · subst h116
      obtain rfl : (9, 1) = T := by rw [← hT]; simp [refE, escL]
      clear hT hc
      go_enter Tryd.func38, Tryd.ntmps38
      go_wp2
      go_ret2
      exact ⟨rfl, rfl⟩
    have t116 : (r == 116) = false := beq_eq_false_iff_ne.2 h116
    by_cases h117 : r = 117
    · subst h117
      cases m with
      | nil =>
        obtain rfl : (0, 0) = T := by rw [← hT]; simp [refE, escL, hexEsc]
        obtain rfl : L = 1 := by simpa using hLm
        clear hT hc hLm hr h34 h92 h110 h116
        go_enter Tryd.func38, Tryd.ntmps38
        go_wp2
        go_ret2
        exact ⟨rfl, rfl⟩
      | cons c1 m =>
        obtain ⟨s, bd1⟩ := c1
        obtain ⟨y0, y1⟩ := hc 1 (by simp)
        simp only [Nat.one_mul, List.getElem_cons_succ, List.getElem_cons_zero] at y0 y1
        have hLm2 : L = m.length + 2 := by simpa using hLm
        have t2 : ¬ (L : Int) < 2 := by omega
        have t1 : (1 : Int) < (L : Int) := by omega
        by_cases h123 : s = 123
        · subst h123
          rw [refE_hex] at hT
          have HX : Hid (∀ k x, (hexGo 7 0 m).1 = x → (hexGo 7 0 m).2 = k → T = refT m k x) := fun k x h1 h2 => by rw [← hT]; exact refH_T m k x h1 h2
          have HC : Hid (∀ (j : Nat) (h : j < m.length), w.cell? ⟨b, o + (2 + j) * 2, none⟩ = some (.int .i32 m[j].1) ∧ w.cell? ⟨b, o + (2 + j) * 2 + 1, none⟩ = some (.bool m[j].2)) := fun j h => by
            have := hc (j + 2) (by simp; omega)
            rw [show o + (2 + j) * 2 = o + (j + 2) * 2 by omega]
            simpa using this
          have HR : Hid (∀ x ∈ m, -2147483648 ≤ x.1 ∧ x.1 ≤ 2147483647) := fun x hx => hr x (by simp [hx])
          have HM : Hid (L = m.length + 2) := hLm2
          clear hT hc hr h34 h92 h110 h116 hLm hLm2
          go_enter Tryd.func38, Tryd.ntmps38
          go_wp2
          go_loopg [4, 5] 8 (fun gf s4 s5 wx => ∃ (k n : Nat) (x : Int), s5 = .int .i64 ((2 + k : Nat) : Int) ∧ s4 = .int .i32 x ∧ wx = w ∧ k + n = 7 ∧ k ≤ m.length ∧ (0 ≤ x ∧ x < hexTop7 n) ∧ Hid ((hexGo 7 0 m).1 = (hexGo n x (m.drop k)).1) ∧ Hid ((hexGo 7 0 m).2 = (hexGo n x (m.drop k)).2 + k) ∧ n < gf)
          case atStart => exact ⟨0, 7, 0, by go_num, rfl, rfl, rfl, by omega, by simp [hexTop7, hexTop], (by show _ = _; rfl), (by show _ = _; rfl), by omega⟩
          case round =>
            obtain ⟨k, n, x, rfl, rfl, rfl, hkn, hk, hx, HG1, HG2, hf⟩ := hrel
            have hxt := hexTop7_le n
            have hx' : x < 268435456 := by omega
            obtain ⟨hLa, hLb⟩ : L ≤ m.length + 2 ∧ m.length + 2 ≤ L := by have := HM.out; omega
            obtain ⟨q, hq⟩ : ∃ q, 2 + k = q := ⟨_, rfl⟩
            rw [hq]
            by_cases hlt2 : k < m.length
            · obtain ⟨z0, z1⟩ := HC.out k hlt2
              have zr := HR.out _ (List.getElem_mem hlt2)
              rw [hq] at z0 z1
              have y0' : (0 : Int) ≤ (q : Int) := by omega
              have y1' : (q : Int) < (L : Int) := by omega
              have ne : ((q : Int) == (L : Int)) = false := beq_eq_false_iff_ne.2 (by omega)
              obtain ⟨⟨c0, c1⟩, hc⟩ : ∃ v, m[k] = v := ⟨_, rfl⟩
              rw [hc] at z0 z1 zr
              simp only at z0 z1 zr
              have HD : Hid (∀ W, Calls Tryd.prog 52 #[.int .i32 c0] W fun e w' => e = .returned (.int .i32 (hexR c0)) ∧ w' = W) := fun W => hexR_any c0 W zr.1 zr.2
              cases hv : hexV c0 with
              | none =>
                rw [show hexR c0 = 16 by simp [hexR, hv]] at HD
                have hz : hexGo n x (m.drop k) = (x, 0) := by
                  cases n with
                  | zero => rfl
                  | succ n => rw [hexGo_at _ _ _ _ hlt2, hc]; simp only [hv]
                rw [hz] at HG1 HG2
                have hA := HX.out k x HG1.out (by have := HG2.out; simpa using this)
                have hA' : T = if k = 0 ∨ k = 7 then (0, 0) else if c0 ≠ 125 ∨ isRuneP x = false then (0, 0) else (x, k + 3) := by
                  rw [hA]; unfold refT; rw [drop_at m k hlt2, hc]
                clear HG1 HG2 HX hz hv hA hc zr
                go_wp2_with fail
                refine (HD.out _).mono ?_
                rintro e w' ⟨rfl, rfl⟩
                by_cases k0 : k = 0
                · have g3 : (q : Int) < 3 := by omega
                  obtain rfl : (0, 0) = T := by rw [hA', if_pos (Or.inl k0)]
                  clear hA'
                  go_wp2
                  go_ret2
                  exact ⟨rfl, rfl⟩
                have g3 : ¬ (q : Int) < 3 := by omega
                by_cases k7 : k = 7
                · have g8 : (8 : Int) < (q : Int) := by omega
                  obtain rfl : (0, 0) = T := by rw [hA', if_pos (Or.inr k7)]
                  clear hA'
                  go_wp2
                  go_ret2
                  exact ⟨rfl, rfl⟩
                have g8 : ¬ (8 : Int) < (q : Int) := by omega
                rw [if_neg (by omega)] at hA'
                by_cases h125 : c0 = 125
                · subst h125
                  simp only [ne_eq, not_true, false_or] at hA'
                  by_cases a1 : 1114111 < x
                  · obtain rfl : (0, 0) = T := by rw [hA', if_pos (by simp [isRuneP]; omega)]
                    clear hA'
                    go_wp2
                    go_ret2
                    exact ⟨rfl, rfl⟩
                  by_cases a2 : 55296 ≤ x
                  · by_cases a3 : x ≤ 57343
                    · have d2 : decide (55296 ≤ x) = true := decide_eq_true a2
                      have d3 : decide (x ≤ 57343) = true := decide_eq_true a3
                      obtain rfl : (0, 0) = T := by rw [hA', if_pos (by simp [isRuneP]; omega)]
                      clear hA'
                      go_wp2
                      go_ret2
                      exact ⟨rfl, rfl⟩
                    · have d2 : decide (55296 ≤ x) = true := decide_eq_true a2
                      have d3 : decide (x ≤ 57343) = false := decide_eq_false a3
                      obtain rfl : (x, k + 3) = T := by rw [hA', if_neg (by simp [isRuneP]; omega)]
                      clear hA'
                      go_wp2
                      go_ret2
                      exact ⟨by simp [pairE]; omega, rfl⟩
                  · have d2 : decide (55296 ≤ x) = false := decide_eq_false a2
                    obtain rfl : (x, k + 3) = T := by rw [hA', if_neg (by simp [isRuneP]; omega)]
                    clear hA'
                    go_wp2
                    go_ret2
                    exact ⟨by simp [pairE]; omega, rfl⟩
                · have hne : (c0 != 125) = true := bne_iff_ne.2 h125
                  obtain rfl : (0, 0) = T := by rw [hA', if_pos (Or.inl h125)]
                  clear hA'
                  go_wp2
                  go_ret2
                  exact ⟨rfl, rfl⟩
              | some d =>
                have hdl := hexV_lt hv
                rw [show hexR c0 = d by simp [hexR, hv]] at HD
                have tlt : decide (d < 16) = true := decide_eq_true hdl.2
                have tlt' : d < 16 := hdl.2
                by_cases hn0 : n = 0
                · subst hn0
                  have y9 : ¬ (q : Int) < 9 := by omega
                  obtain rfl : (0, 0) = T := by
                    rw [HX.out k x HG1.out (by have := HG2.out; simpa [hexGo] using this)]
                    unfold refT
                    rw [if_pos (Or.inr (by omega))]
                  have g3 : ¬ (q : Int) < 3 := by omega
                  have g8 : (8 : Int) < (q : Int) := by omega
                  clear HG1 HG2 HX hv hc zr
                  go_wp2_with fail
                  refine (HD.out _).mono ?_
                  rintro e w' ⟨rfl, rfl⟩
                  go_wp2
                  go_ret2
                  exact ⟨rfl, rfl⟩
                · obtain ⟨n, rfl⟩ : ∃ n', n = n' + 1 := ⟨n - 1, by omega⟩
                  obtain ⟨g', rfl⟩ : ∃ g', gk = g' + 1 := ⟨gk - 1, by omega⟩
                  have y9 : (q : Int) < 9 := by omega
                  have hst := hexTop7_step (by omega) hx hdl
                  have h16 := hexTop7_le1 n
                  have hg1 := HG1.out
                  have hg2 := HG2.out
                  rw [hexGo_at _ _ _ _ hlt2, hc] at hg1 hg2
                  simp only [hv] at hg1 hg2
                  have HG1' : Hid ((hexGo 7 0 m).1 = (hexGo n (16 * x + d) (m.drop (k + 1))).1) := by show _ = _; rw [hg1, Int.mul_comm 16 x]
                  have HG2' : Hid ((hexGo 7 0 m).2 = (hexGo n (16 * x + d) (m.drop (k + 1))).2 + (k + 1)) := by show _ = _; rw [hg2, Int.mul_comm 16 x]; omega
                  have b1 : 16 * x ≤ 268435456 := by omega
                  have b0 : 0 ≤ 16 * x := by omega
                  clear hg1 hg2 HG1 HG2 hv hc zr
                  go_wp2_with fail
                  refine (HD.out _).mono ?_
                  rintro e w' ⟨rfl, rfl⟩
                  go_wp2_with fail
                  refine (HD.out _).mono ?_
                  rintro e w' ⟨rfl, rfl⟩
                  go_wp2
                  go_roundg g'
                  case measure => omega
                  case rel => exact ⟨k + 1, n, 16 * x + d, by go_num, by go_num, rfl, by omega, by omega, hst, HG1', HG2', by omega⟩
            · have y1' : ¬ (q : Int) < (L : Int) := by omega
              have eq : ((q : Int) == (L : Int)) = true := by rw [beq_iff_eq]; omega
              have hz : hexGo n x (m.drop k) = (x, 0) := by
                rw [List.drop_of_length_le (by omega)]
                cases n <;> rfl
              rw [hz] at HG1 HG2
              obtain rfl : (0, 0) = T := by
                rw [HX.out k x HG1.out (by have := HG2.out; simpa using this)]
                unfold refT
                rw [List.drop_of_length_le (by omega)]
                simp
              clear HG1 HG2 HX hz
              by_cases k0 : k = 0
              · have g3 : (q : Int) < 3 := by omega
                go_wp2
                go_ret2
                exact ⟨rfl, rfl⟩
              have g3 : ¬ (q : Int) < 3 := by omega
              by_cases k7 : k = 7
              · have g8 : (8 : Int) < (q : Int) := by omega
                go_wp2
                go_ret2
                exact ⟨rfl, rfl⟩
              have g8 : ¬ (8 : Int) < (q : Int) := by omega
              go_wp2
              go_ret2
              exact ⟨rfl, rfl⟩
        · have n123 : (s != 123) = true := bne_iff_ne.2 h123
          obtain rfl : (0, 0) = T := by rw [← hT]; exact (refE_u _ _ (by rintro b2 m' h; injection h with h _; injection h with h _; exact h123 h)).symm
          clear hT hc hr h34 h92 h110 h116 hLm
          go_enter Tryd.func38, Tryd.ntmps38
          go_wp2
          go_ret2
          exact ⟨rfl, rfl⟩
    · have n117 : (r != 117) = true := bne_iff_ne.2 h117
      obtain rfl : (0, 0) = T := by rw [← hT]; exact (refE_o _ _ _ h117 h34 h92 h110 h116).symm
      clear hT hc hr
      go_enter Tryd.func38, Tryd.ntmps38
      go_wp2
      go_ret2
      exact ⟨rfl, rfl⟩
end Go.Proofs.YtimnnebmjapneaaDoor
