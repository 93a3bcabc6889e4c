/- Escapes of a text: what readEscape and readHexEscape answer. -/
import Derived.Test.YtnmmojhbcnlboaaGreatDoorLa
namespace Go.Proofs.YtnmmojhbcnlboaaGreatDoor
open Go.RowKit Go.Lib
set_option linter.unusedVariables false

def hexV (c : Int) : Option Int := if 48 ≤ c ∧ c ≤ 57 then some (c - 48) else if 97 ≤ c ∧ c ≤ 102 then some (c - 87) else none
theorem hexV_lt {c d : Int} (h : hexV c = some d) : 0 ≤ d ∧ d < 16 := by
  unfold hexV at h
  split at h
  · simp only [Option.some.injEq] at h; omega
  split at h
  · simp only [Option.some.injEq] at h; omega
  · cases h
def isRuneP (n : Int) : Bool := decide (n ≤ 1114111) && (decide (n < 55296) || decide (57343 < n))
/-- The number of hexadecimal with which letters begin, of so many digits at most, and how many it has. -/
def hexGo : Nat → Int → List Let → Int × Nat
  | 0, x, _ => (x, 0)
  | _ + 1, x, [] => (x, 0)
  | n + 1, x, c :: l => match hexV c.1 with
    | none => (x, 0)
    | some d => ((hexGo n (x * 16 + d) l).1, (hexGo n (x * 16 + d) l).2 + 1)
/-- What stands behind an escape's u: its rune, and how many letters it has. -/
def hexEsc : List Let → Option (Int × Nat)
  | [] => none
  | c :: l => if c.1 ≠ 123 then none else match l.drop (hexGo 6 0 l).2 with
    | [] => none
    | d :: _ => if (hexGo 6 0 l).2 = 0 ∨ d.1 ≠ 125 ∨ isRuneP (hexGo 6 0 l).1 = false then none else some ((hexGo 6 0 l).1, (hexGo 6 0 l).2 + 2)
/-- An escape behind its mark: its rune, and how many letters it has. -/
def escL : List Let → Option (Int × Nat)
  | [] => none
  | c :: l => if c.1 = 117 then (hexEsc l).map (fun p => (p.1, p.2 + 1)) else if c.1 = 34 then some (34, 1) else if c.1 = 92 then some (92, 1) else if c.1 = 110 then some (10, 1) else if c.1 = 116 then some (9, 1) else none

def optPair (o : Option Int) : Value := match o with
  | none => .tuple #[.int .i32 0, .bool false]
  | some d => .tuple #[.int .i32 d, .bool true]
theorem hexDigit_any (r : Int) (w : World) (h0 : -2147483648 ≤ r) (h1 : r ≤ 2147483647) : Calls Tryz.prog 117 #[.int .i32 r] w fun e w' => e = .returned (optPair (hexV r)) ∧ w' = w := by
  by_cases a : 48 ≤ r ∧ r ≤ 57
  · rw [show hexV r = some (r - 48) by simp [hexV, a]]
    obtain ⟨a1, a2⟩ := a
    have t1 : decide (48 ≤ r) = true := by simpa using a1
    have t2 : decide (r ≤ 57) = true := by simpa using a2
    go_enter Tryz.func117, Tryz.ntmps117
    go_wp2
    go_ret2
    exact ⟨rfl, rfl⟩
  · by_cases b : 97 ≤ r ∧ r ≤ 102
    · rw [show hexV r = some (r - 87) by simp [hexV, a, b]]
      obtain ⟨a1, a2⟩ := b
      clear a
      have t1 : decide (48 ≤ r) = true := by simp; omega
      have t2 : decide (r ≤ 57) = false := by simp; omega
      have t3 : decide (97 ≤ r) = true := by simp; omega
      have t4 : decide (r ≤ 102) = true := by simp; omega
      go_enter Tryz.func117, Tryz.ntmps117
      go_wp2
      go_ret2
      exact ⟨by simp [optPair]; omega, rfl⟩
    · rw [show hexV r = none by simp [hexV, a, b]]
      have HA : Hid (¬(48 ≤ r ∧ r ≤ 57)) := a
      have HB : Hid (¬(97 ≤ r ∧ r ≤ 102)) := b
      clear a b
      by_cases c1 : 48 ≤ r
      · have t1 : decide (48 ≤ r) = true := by simp; omega
        have t2 : decide (r ≤ 57) = false := by have := HA.out; simp; omega
        by_cases c2 : 97 ≤ r
        · have t3 : decide (97 ≤ r) = true := by simp; omega
          have t4 : decide (r ≤ 102) = false := by have := HB.out; simp; omega
          go_enter Tryz.func117, Tryz.ntmps117
          go_wp2
          go_ret2
          exact ⟨rfl, rfl⟩
        · have t3 : decide (97 ≤ r) = false := by simp; omega
          go_enter Tryz.func117, Tryz.ntmps117
          go_wp2
          go_ret2
          exact ⟨rfl, rfl⟩
      · have t1 : decide (48 ≤ r) = false := by simp; omega
        have t3 : decide (97 ≤ r) = false := by simp; omega
        go_enter Tryz.func117, Tryz.ntmps117
        go_wp2
        go_ret2
        exact ⟨rfl, rfl⟩
theorem isRune_any (n : Int) (w : World) : Calls Tryz.prog 118 #[.int .i32 n] w fun e w' => e = .returned (.bool (isRuneP n)) ∧ w' = w := by
  go_enter Tryz.func118, Tryz.ntmps118
  unfold isRuneP
  cases t1 : decide (n ≤ 1114111)
  · go_wp2
    go_ret
    exact ⟨rfl, rfl⟩
  · cases t2 : decide (n < 55296)
    · go_wp2
      go_ret
      simp
    · go_wp2
      go_ret
      exact ⟨rfl, rfl⟩

def escV (at0 : Nat) (o : Option (Int × Nat)) : Value := match o with
  | none => .tuple #[.int .i32 0, .int .i64 0, .bool false]
  | some p => .tuple #[.int .i32 p.1, .int .i64 ((at0 + p.2 : Nat) : Int), .bool true]
theorem hexGo_at (n : Nat) (x : Int) (ls : List Let) (k : Nat) (h : k < ls.length) : hexGo (n + 1) x (ls.drop k) = match hexV ls[k].1 with
    | none => (x, 0)
    | some d => ((hexGo n (x * 16 + d) (ls.drop (k + 1))).1, (hexGo n (x * 16 + d) (ls.drop (k + 1))).2 + 1) := by
  rw [drop_at ls k h]; rfl
theorem hexGo_le : ∀ (n : Nat) (x : Int) (l : List Let), (hexGo n x l).2 ≤ n ∧ (hexGo n x l).2 ≤ l.length
  | 0, x, l => by simp [hexGo]
  | n + 1, x, [] => by simp [hexGo]
  | n + 1, x, c :: l => by
    unfold hexGo
    cases hexV c.1 with
    | none => simp
    | some d => have := hexGo_le n (x * 16 + d) l; simp; omega
/-- The bounds of such a number. -/
def hexTop : Nat → Int
  | 0 => 16777216
  | 1 => 1048576
  | 2 => 65536
  | 3 => 4096
  | 4 => 256
  | 5 => 16
  | _ => 1
theorem hexTop_step {n : Nat} {x d : Int} (hn : n < 6) (hx : 0 ≤ x ∧ x < hexTop (n + 1)) (hd : 0 ≤ d ∧ d < 16) : 0 ≤ x * 16 + d ∧ x * 16 + d < hexTop n := by
  match n, hn with
  | 0, _ => simp only [hexTop] at hx ⊢; omega
  | 1, _ => simp only [hexTop] at hx ⊢; omega
  | 2, _ => simp only [hexTop] at hx ⊢; omega
  | 3, _ => simp only [hexTop] at hx ⊢; omega
  | 4, _ => simp only [hexTop] at hx ⊢; omega
  | 5, _ => simp only [hexTop] at hx ⊢; omega
theorem hexTop_le (n : Nat) : hexTop n ≤ 16777216 := by
  match n with
  | 0 | 1 | 2 | 3 | 4 | 5 => simp [hexTop]
  | _ + 6 => simp [hexTop]

/-- What is told of a number of so many digits, by what stands behind it. -/
def hexTail (ls : List Let) (at0 k : Nat) (x : Int) : Option (Int × Nat) :=
  match ls.drop (at0 + 1 + k) with
  | [] => none
  | d :: _ => if k = 0 ∨ d.1 ≠ 125 ∨ isRuneP x = false then none else some (x, k + 2)
theorem hexEsc_tail (ls : List Let) (at0 : Nat) (h : at0 < ls.length) (hb : ls[at0].1 = 123) (k : Nat) (x : Int) (h1 : (hexGo 6 0 (ls.drop (at0 + 1))).1 = x) (h2 : (hexGo 6 0 (ls.drop (at0 + 1))).2 = k) :
    hexEsc (ls.drop at0) = hexTail ls at0 k x := by
  rw [drop_at ls at0 h]
  unfold hexEsc hexTail
  simp only [hb, h1, h2, List.drop_drop]
  simp

set_option maxHeartbeats 4000000 in
theorem readHex_any (b c at0 : Nat) (ls : List Let) (w : World) (hl : LetsAt w b ls) (hn : ls.length ≤ 2048) (hr : ∀ x ∈ ls, -2147483648 ≤ x.1 ∧ x.1 ≤ 2147483647) (ha : at0 ≤ ls.length) :
    Calls Tryz.prog 98 #[.slice (some ⟨b, 0, none⟩) ls.length c, .int .i64 at0] w fun e w' => e = .returned (escV at0 (hexEsc (ls.drop at0))) ∧ w' = w := by
  by_cases hlt : at0 < ls.length
  · have hz0 : (0 : Int) ≤ (at0 : Int) := by omega
    have hz1 : ¬ (ls.length : Int) ≤ (at0 : Int) := by omega
    have hz2 : (at0 : Int) < (ls.length : Int) := by omega
    obtain ⟨x0, x1⟩ := hl at0 hlt
    by_cases hb : ls[at0].1 = 123
    · rw [hb] at x0
      have HX : Hid (∀ k x, (hexGo 6 0 (ls.drop (at0 + 1))).1 = x → (hexGo 6 0 (ls.drop (at0 + 1))).2 = k → hexEsc (ls.drop at0) = hexTail ls at0 k x) := hexEsc_tail ls at0 hlt hb
      obtain ⟨ans, hans⟩ : ∃ ans, hexEsc (ls.drop at0) = ans := ⟨_, rfl⟩
      rw [hans] at HX ⊢
      clear hans hb x1
      have HL : Hid (LetsAt w b ls) := hl
      have HR : Hid (∀ x ∈ ls, -2147483648 ≤ x.1 ∧ x.1 ≤ 2147483647) := hr
      clear hl hr
      go_enter Tryz.func98, Tryz.ntmps98
      go_wp2
      go_loopg [8, 9] 7 (fun gf s6 s7 wx => ∃ (k n : Nat) (x : Int), s6 = .int .i64 ((at0 + 1 + k : Nat) : Int) ∧ s7 = .int .i32 x ∧ wx = w ∧ k + n = 6 ∧ at0 + 1 + k ≤ ls.length ∧ (0 ≤ x ∧ x < hexTop n) ∧ (hexGo 6 0 (ls.drop (at0 + 1))).1 = (hexGo n x (ls.drop (at0 + 1 + k))).1 ∧ (hexGo 6 0 (ls.drop (at0 + 1))).2 = (hexGo n x (ls.drop (at0 + 1 + k))).2 + k ∧ n < gf)
      case atStart => exact ⟨0, 6, 0, by go_num, rfl, rfl, rfl, by omega, by simp [hexTop], rfl, rfl, by omega⟩
      case round =>
        obtain ⟨k, n, x, rfl, rfl, rfl, hkn, hk, hx, hg1, hg2, hf⟩ := hrel
        have hxt := hexTop_le n
        have hx' : x < 16777216 := by omega
        obtain ⟨q, hq⟩ : ∃ q, at0 + 1 + k = q := ⟨_, rfl⟩
        by_cases hlt2 : q < ls.length ∧ 0 < n
        · obtain ⟨h1, h2⟩ := hlt2
          obtain ⟨m, rfl⟩ : ∃ m, n = m + 1 := ⟨n - 1, by omega⟩
          obtain ⟨g', rfl⟩ : ∃ g', gk = g' + 1 := ⟨gk - 1, by omega⟩
          have y0 : (0 : Int) ≤ (q : Int) := by omega
          have y1 : (q : Int) < (ls.length : Int) := by omega
          have y2 : (q : Int) - ((at0 : Int) + 1) < 6 := by omega
          rw [hq] at hg1 hg2 hk ⊢
          rw [hexGo_at _ _ _ _ h1] at hg1 hg2
          obtain ⟨z0, z1⟩ := HL.out q h1
          have zr := HR.out _ (List.getElem_mem h1)
          have hd := hexDigit_any ls[q].1 wr zr.1 zr.2
          obtain ⟨⟨c0, c1⟩, hc⟩ : ∃ v, ls[q] = v := ⟨_, rfl⟩
          rw [hc] at z0 z1 zr hd hg1 hg2
          cases hv : hexV c0 with
          | none =>
            rw [hv] at hd hg1 hg2
            have HD : Hid (Calls Tryz.prog 117 #[.int .i32 c0] wr fun e w' => e = .returned (.tuple #[.int .i32 0, .bool false]) ∧ w' = wr) := hd
            have hA := HX.out k x hg1 (by simpa using hg2)
            clear hd hg1 hg2 HX hv zr hc
            go_wp2_with fail
            refine HD.out.mono ?_
            rintro e w' ⟨rfl, rfl⟩
            clear z0 z1
            by_cases k0 : k = 0
            · have tq : ((q : Int) == (at0 : Int) + 1) = true := by rw [beq_iff_eq]; omega
              obtain rfl : ans = none := by rw [hA]; unfold hexTail; split <;> simp [k0]
              clear hA
              go_wp2_with fail
              go_ret3
              exact ⟨rfl, rfl⟩
            · have tq : ((q : Int) == (at0 : Int) + 1) = false := beq_eq_false_iff_ne.2 (by omega)
              by_cases hq2 : q < ls.length
              · have tl : ¬ (ls.length : Int) ≤ (q : Int) := by omega
                have y0' : (0 : Int) ≤ (q : Int) := by omega
                have y1' : (q : Int) < (ls.length : Int) := by omega
                obtain ⟨u0, u1⟩ := HL.out q hq2
                have hA' : ans = if ls[q].1 ≠ 125 ∨ isRuneP x = false then none else some (x, k + 2) := by
                  rw [hA]; unfold hexTail; rw [hq, drop_at ls q hq2]; simp [k0]
                obtain ⟨⟨d0, d1⟩, hd⟩ : ∃ v, ls[q] = v := ⟨_, rfl⟩
                rw [hd] at u0 u1 hA'
                clear hA hd
                by_cases h125 : d0 = 125
                · subst h125
                  have HI : Hid (Calls Tryz.prog 118 #[.int .i32 x] w' fun e v' => e = .returned (.bool (isRuneP x)) ∧ v' = w') := isRune_any x w'
                  cases hR : isRuneP x with
                  | false =>
                    rw [hR] at HI
                    obtain rfl : ans = none := by rw [hA', hR]; simp
                    clear hA' hR
                    go_wp2_with fail
                    refine HI.out.mono ?_
                    rintro e w' ⟨rfl, rfl⟩
                    go_wp2_with fail
                    go_ret3
                    exact ⟨rfl, rfl⟩
                  | true =>
                    rw [hR] at HI
                    obtain rfl : ans = some (x, k + 2) := by rw [hA', hR]; simp
                    clear hA' hR
                    go_wp2_with fail
                    refine HI.out.mono ?_
                    rintro e w' ⟨rfl, rfl⟩
                    go_wp2_with fail
                    go_ret3
                    exact ⟨by simp [escV]; omega, rfl⟩
                · have hne : (d0 != 125) = true := bne_iff_ne.2 h125
                  obtain rfl : ans = none := by rw [hA']; simp [h125]
                  clear hA'
                  go_wp2_with fail
                  go_ret3
                  exact ⟨rfl, rfl⟩
              · have tl : (ls.length : Int) ≤ (q : Int) := by omega
                obtain rfl : ans = none := by rw [hA]; unfold hexTail; rw [hq, List.drop_of_length_le (by omega)]
                clear hA
                go_wp2_with fail
                go_ret3
                exact ⟨rfl, rfl⟩
          | some d =>
            rw [hv] at hd hg1 hg2
            have HD : Hid (Calls Tryz.prog 117 #[.int .i32 c0] wr fun e w' => e = .returned (.tuple #[.int .i32 d, .bool true]) ∧ w' = wr) := hd
            have hdl := hexV_lt hv
            have hst := hexTop_step (by omega) hx hdl
            have HG1 : Hid ((hexGo 6 0 (ls.drop (at0 + 1))).1 = (hexGo m (x * 16 + d) (ls.drop (q + 1))).1) := hg1
            have HG2 : Hid ((hexGo 6 0 (ls.drop (at0 + 1))).2 = (hexGo m (x * 16 + d) (ls.drop (q + 1))).2 + 1 + k) := hg2
            have hmt := hexTop_le m
            have b1 : x * 16 ≤ 268435456 := by omega
            have b0 : 0 ≤ x * 16 := by omega
            clear hd hg1 hg2 hv zr hc
            go_wp2_with fail
            refine HD.out.mono ?_
            rintro e w' ⟨rfl, rfl⟩
            go_wp2
            go_roundg g'
            case measure => omega
            case rel => exact ⟨k + 1, m, x * 16 + d, by go_num, by go_num, rfl, by omega, by omega, hst, by rw [HG1.out]; congr 3; omega, by rw [HG2.out, show at0 + 1 + (k + 1) = q + 1 by omega]; omega, by omega⟩
        · have hz : hexGo n x (ls.drop (at0 + 1 + k)) = (x, 0) := by
            by_cases hn0 : n = 0
            · subst hn0; rfl
            · rw [List.drop_of_length_le (by omega)]
              cases n with
              | zero => rfl
              | succ n => rfl
          rw [hz] at hg1 hg2
          have hA := HX.out k x hg1 (by simpa using hg2)
          rw [hq] at hk ⊢
          clear hg1 hg2 HX hz
          by_cases e1 : q < ls.length
          · have y1 : (q : Int) < (ls.length : Int) := by omega
            have y2 : ¬ (q : Int) - ((at0 : Int) + 1) < 6 := by omega
            by_cases k0 : k = 0
            · have tq : ((q : Int) == (at0 : Int) + 1) = true := by rw [beq_iff_eq]; omega
              obtain rfl : ans = none := by rw [hA]; unfold hexTail; split <;> simp [k0]
              clear hA
              go_wp2_with fail
              go_ret3
              exact ⟨rfl, rfl⟩
            · have tq : ((q : Int) == (at0 : Int) + 1) = false := beq_eq_false_iff_ne.2 (by omega)
              by_cases hq2 : q < ls.length
              · have tl : ¬ (ls.length : Int) ≤ (q : Int) := by omega
                have y0' : (0 : Int) ≤ (q : Int) := by omega
                have y1' : (q : Int) < (ls.length : Int) := by omega
                obtain ⟨u0, u1⟩ := HL.out q hq2
                have hA' : ans = if ls[q].1 ≠ 125 ∨ isRuneP x = false then none else some (x, k + 2) := by
                  rw [hA]; unfold hexTail; rw [hq, drop_at ls q hq2]; simp [k0]
                obtain ⟨⟨d0, d1⟩, hd⟩ : ∃ v, ls[q] = v := ⟨_, rfl⟩
                rw [hd] at u0 u1 hA'
                clear hA hd
                by_cases h125 : d0 = 125
                · subst h125
                  have HI : Hid (Calls Tryz.prog 118 #[.int .i32 x] wr fun e v' => e = .returned (.bool (isRuneP x)) ∧ v' = wr) := isRune_any x wr
                  cases hR : isRuneP x with
                  | false =>
                    rw [hR] at HI
                    obtain rfl : ans = none := by rw [hA', hR]; simp
                    clear hA' hR
                    go_wp2_with fail
                    refine HI.out.mono ?_
                    rintro e w' ⟨rfl, rfl⟩
                    go_wp2_with fail
                    go_ret3
                    exact ⟨rfl, rfl⟩
                  | true =>
                    rw [hR] at HI
                    obtain rfl : ans = some (x, k + 2) := by rw [hA', hR]; simp
                    clear hA' hR
                    go_wp2_with fail
                    refine HI.out.mono ?_
                    rintro e w' ⟨rfl, rfl⟩
                    go_wp2_with fail
                    go_ret3
                    exact ⟨by simp [escV]; omega, rfl⟩
                · have hne : (d0 != 125) = true := bne_iff_ne.2 h125
                  obtain rfl : ans = none := by rw [hA']; simp [h125]
                  clear hA'
                  go_wp2_with fail
                  go_ret3
                  exact ⟨rfl, rfl⟩
              · have tl : (ls.length : Int) ≤ (q : Int) := by omega
                obtain rfl : ans = none := by rw [hA]; unfold hexTail; rw [hq, List.drop_of_length_le (by omega)]
                clear hA
                go_wp2_with fail
                go_ret3
                exact ⟨rfl, rfl⟩
          · have y1 : ¬ (q : Int) < (ls.length : Int) := by omega
            by_cases k0 : k = 0
            · have tq : ((q : Int) == (at0 : Int) + 1) = true := by rw [beq_iff_eq]; omega
              obtain rfl : ans = none := by rw [hA]; unfold hexTail; split <;> simp [k0]
              clear hA
              go_wp2_with fail
              go_ret3
              exact ⟨rfl, rfl⟩
            · have tq : ((q : Int) == (at0 : Int) + 1) = false := beq_eq_false_iff_ne.2 (by omega)
              by_cases hq2 : q < ls.length
              · exact absurd hq2 e1
              · have tl : (ls.length : Int) ≤ (q : Int) := by omega
                obtain rfl : ans = none := by rw [hA]; unfold hexTail; rw [hq, List.drop_of_length_le (by omega)]
                clear hA
                go_wp2_with fail
                go_ret3
                exact ⟨rfl, rfl⟩
    · have hne : (ls[at0].1 != 123) = true := bne_iff_ne.2 hb
      rw [show hexEsc (ls.drop at0) = none by rw [drop_at ls at0 hlt]; simp [hexEsc, hb]]
      generalize ls[at0].1 = c0 at *
      clear hl hr
      go_enter Tryz.func98, Tryz.ntmps98
      go_wp2
      go_ret3
      exact ⟨rfl, rfl⟩
  · have hz1 : (ls.length : Int) ≤ (at0 : Int) := by omega
    rw [List.drop_of_length_le (by omega)]
    go_enter Tryz.func98, Tryz.ntmps98
    go_wp2
    go_ret3
    exact ⟨rfl, rfl⟩
end Go.Proofs.YtnmmojhbcnlboaaGreatDoor
