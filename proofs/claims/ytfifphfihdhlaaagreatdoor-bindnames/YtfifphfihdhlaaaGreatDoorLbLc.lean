/- Escapes of a text: what readEscape and readHexEscape answer. -/
import Derived.Test.YtfifphfihdhlaaaGreatDoorLa
import Derived.Maps.OwnOps
import Derived.Maps.OwnSet
import Derived.Carry
import Derived.Deep.RegionHeld3
set_option maxRecDepth 100000
set_option maxHeartbeats 32000000
namespace Go.Proofs.YtfifphfihdhlaaaGreatDoor
open Tryz
open Go.RowKit Go.Lib
set_option linter.unusedVariables false
def hexV (c : Int) : Option Int := if 48 ≤ c ∧ c ≤ 57 then some (c - 48) else if 97 ≤ c ∧ c ≤ 102 then some (c - 87) else none
theorem hexV_lt {c d : Int} (h : hexV c = some d) : 0 ≤ d ∧ d < 16 := by
 unfold hexV at h
 split at h
 · simp only [Option.some.injEq] at h; omega
 split at h
 · simp only [Option.some.injEq] at h; omega
 · cases h
def isRuneP (n : Int) : Bool := decide (n ≤ 1114111) && (decide (n < 55296) || decide (57343 < n))
def hexGo : Nat → Int → List Let → Int × Nat
 | 0, x, _ => (x, 0)
 | _ + 1, x, [] => (x, 0)
 | n + 1, x, c :: l => match hexV c.1 with
  | none => (x, 0)
  | some d => ((hexGo n (x * 16 + d) l).1, (hexGo n (x * 16 + d) l).2 + 1)
def hexEsc : List Let → Option (Int × Nat)
 | [] => none
 | c :: l => if c.1 ≠ 123 then none else match l.drop (hexGo 6 0 l).2 with
  | [] => none
  | d :: _ => if (hexGo 6 0 l).2 = 0 ∨ d.1 ≠ 125 ∨ isRuneP (hexGo 6 0 l).1 = false then none else some ((hexGo 6 0 l).1, (hexGo 6 0 l).2 + 2)
def escL : List Let → Option (Int × Nat)
 | [] => none
 | c :: l => if c.1 = 117 then (hexEsc l).map (fun p => (p.1, p.2 + 1)) else if c.1 = 34 then some (34, 1) else if c.1 = 92 then some (92, 1) else if c.1 = 110 then some (10, 1) else if c.1 = 116 then some (9, 1) else none
def optPair (o : Option Int) : Value := match o with
 | none => .tuple #[.int .i32 0, .bool false]
 | some d => .tuple #[.int .i32 d, .bool true]
theorem hexDigit_any (r : Int) (w : World) (h0 : -2147483648 ≤ r) (h1 : r ≤ 2147483647) : Calls prog 201 #[.int .i32 r] w fun e w' => e = .returned (optPair (hexV r)) ∧ w' = w := by
 by_cases a : 48 ≤ r ∧ r ≤ 57
 · rw [show hexV r = some (r - 48) by simp [hexV, a]]
   obtain ⟨a1, a2⟩ := a
   have t1 : decide (48 ≤ r) = true := by simpa using a1
   have t2 : decide (r ≤ 57) = true := by simpa using a2
   go_enter func201, ntmps201
   go_wp2
   go_ret2
   exact ⟨rfl, rfl⟩
 · by_cases b : 97 ≤ r ∧ r ≤ 102
   · rw [show hexV r = some (r - 87) by simp [hexV, a, b]]
     obtain ⟨a1, a2⟩ := b
     clear a
     have t1 : decide (48 ≤ r) = true := by simp; omega
     have t2 : decide (r ≤ 57) = false := by simp; omega
     have t3 : decide (97 ≤ r) = true := by simp; omega
     have t4 : decide (r ≤ 102) = true := by simp; omega
     go_enter func201, ntmps201
     go_wp2
     go_ret2
     exact ⟨by simp [optPair]; omega, rfl⟩
   · rw [show hexV r = none by simp [hexV, a, b]]
     have HA : Hid (¬(48 ≤ r ∧ r ≤ 57)) := a
     have HB : Hid (¬(97 ≤ r ∧ r ≤ 102)) := b
     clear a b
     by_cases c1 : 48 ≤ r
     · have t1 : decide (48 ≤ r) = true := by simp; omega
       have t2 : decide (r ≤ 57) = false := by have := HA.out; simp; omega
       by_cases c2 : 97 ≤ r
       · have t3 : decide (97 ≤ r) = true := by simp; omega
         have t4 : decide (r ≤ 102) = false := by have := HB.out; simp; omega
         go_enter func201, ntmps201
         go_wp2
         go_ret2
         exact ⟨rfl, rfl⟩
       · have t3 : decide (97 ≤ r) = false := by simp; omega
         go_enter func201, ntmps201
         go_wp2
         go_ret2
         exact ⟨rfl, rfl⟩
     · have t1 : decide (48 ≤ r) = false := by simp; omega
       have t3 : decide (97 ≤ r) = false := by simp; omega
       go_enter func201, ntmps201
       go_wp2
       go_ret2
       exact ⟨rfl, rfl⟩
theorem isRune_any (n : Int) (w : World) : Calls prog 202 #[.int .i32 n] w fun e w' => e = .returned (.bool (isRuneP n)) ∧ w' = w := by
 go_enter func202, ntmps202
 unfold isRuneP
 cases t1 : decide (n ≤ 1114111)
 · go_wp2
   go_ret
   exact ⟨rfl, rfl⟩
 · cases t2 : decide (n < 55296)
   · go_wp2
     go_ret
     simp
   · go_wp2
     go_ret
     exact ⟨rfl, rfl⟩
def escV (at0 : Nat) (o : Option (Int × Nat)) : Value := match o with
 | none => .tuple #[.int .i32 0, .int .i64 0, .bool false]
 | some p => .tuple #[.int .i32 p.1, .int .i64 ((at0 + p.2 : Nat) : Int), .bool true]
theorem hexGo_at (n : Nat) (x : Int) (ls : List Let) (k : Nat) (h : k < ls.length) : hexGo (n + 1) x (ls.drop k) = match hexV ls[k].1 with
 | none => (x, 0)
 | some d => ((hexGo n (x * 16 + d) (ls.drop (k + 1))).1, (hexGo n (x * 16 + d) (ls.drop (k + 1))).2 + 1) := by
 rw [drop_at ls k h]; rfl
theorem hexGo_le : ∀ (n : Nat) (x : Int) (l : List Let), (hexGo n x l).2 ≤ n ∧ (hexGo n x l).2 ≤ l.length
 | 0, x, l => by simp [hexGo]
 | n + 1, x, [] => by simp [hexGo]
 | n + 1, x, c :: l => by
  unfold hexGo
  cases hexV c.1 with
  | none => simp
  | some d => have := hexGo_le n (x * 16 + d) l; simp; omega
def hexTop : Nat → Int
 | 0 => 16777216
 | 1 => 1048576
 | 2 => 65536
 | 3 => 4096
 | 4 => 256
 | 5 => 16
 | _ => 1
theorem hexTop_step {n : Nat} {x d : Int} (hn : n < 6) (hx : 0 ≤ x ∧ x < hexTop (n + 1)) (hd : 0 ≤ d ∧ d < 16) : 0 ≤ x * 16 + d ∧ x * 16 + d < hexTop n := by
 match n, hn with
 | 0, _ => simp only [hexTop] at hx ⊢; omega
 | 1, _ => simp only [hexTop] at hx ⊢; omega
 | 2, _ => simp only [hexTop] at hx ⊢; omega
 | 3, _ => simp only [hexTop] at hx ⊢; omega
 | 4, _ => simp only [hexTop] at hx ⊢; omega
 | 5, _ => simp only [hexTop] at hx ⊢; omega
theorem hexTop_le (n : Nat) : hexTop n ≤ 16777216 := by
 match n with
 | 0 | 1 | 2 | 3 | 4 | 5 => simp [hexTop]
 | _ + 6 => simp [hexTop]
def hexTail (ls : List Let) (at0 k : Nat) (x : Int) : Option (Int × Nat) :=
 match ls.drop (at0 + 1 + k) with
 | [] => none
 | d :: _ => if k = 0 ∨ d.1 ≠ 125 ∨ isRuneP x = false then none else some (x, k + 2)
theorem hexEsc_tail (ls : List Let) (at0 : Nat) (h : at0 < ls.length) (hb : ls[at0].1 = 123) (k : Nat) (x : Int) (h1 : (hexGo 6 0 (ls.drop (at0 + 1))).1 = x) (h2 : (hexGo 6 0 (ls.drop (at0 + 1))).2 = k) :
 hexEsc (ls.drop at0) = hexTail ls at0 k x := by
 rw [drop_at ls at0 h]
 unfold hexEsc hexTail
 simp only [hb, h1, h2, List.drop_drop]
 simp
theorem readHex_any (b c at0 : Nat) (ls : List Let) (w : World) (hl : LetsAt w b ls) (hn : ls.length ≤ 2048) (hr : ∀ x ∈ ls, -2147483648 ≤ x.1 ∧ x.1 ≤ 2147483647) (ha : at0 ≤ ls.length) :
 Calls prog 177 #[.slice (some ⟨b, 0, none⟩) ls.length c, .int .i64 at0] w fun e w' => e = .returned (escV at0 (hexEsc (ls.drop at0))) ∧ w' = w := by
 by_cases hlt : at0 < ls.length
 · have hz0 : (0 : Int) ≤ (at0 : Int) := by omega
   have hz1 : ¬ (ls.length : Int) ≤ (at0 : Int) := by omega
   have hz2 : (at0 : Int) < (ls.length : Int) := by omega
   obtain ⟨x0, x1⟩ := hl at0 hlt
   by_cases hb : ls[at0].1 = 123
   · rw [hb] at x0
     have HX : Hid (∀ k x, (hexGo 6 0 (ls.drop (at0 + 1))).1 = x → (hexGo 6 0 (ls.drop (at0 + 1))).2 = k → hexEsc (ls.drop at0) = hexTail ls at0 k x) := hexEsc_tail ls at0 hlt hb
     obtain ⟨ans, hans⟩ := gen (hexEsc (ls.drop at0))
     rw [hans] at HX ⊢
     clear hans hb x1
     have HL : Hid (LetsAt w b ls) := hl
     have HR : Hid (∀ x ∈ ls, -2147483648 ≤ x.1 ∧ x.1 ≤ 2147483647) := hr
     clear hl hr
     go_enter func177, ntmps177
     go_wp2
     go_loopg [8, 9] 7 (fun gf s6 s7 wx => ∃ (k n : Nat) (x : Int), s6 = .int .i64 ((at0 + 1 + k : Nat) : Int) ∧ s7 = .int .i32 x ∧ wx = w ∧ k + n = 6 ∧ at0 + 1 + k ≤ ls.length ∧ (0 ≤ x ∧ x < hexTop n) ∧ (hexGo 6 0 (ls.drop (at0 + 1))).1 = (hexGo n x (ls.drop (at0 + 1 + k))).1 ∧ (hexGo 6 0 (ls.drop (at0 + 1))).2 = (hexGo n x (ls.drop (at0 + 1 + k))).2 + k ∧ n < gf)
     case atStart => exact ⟨0, 6, 0, by go_num, rfl, rfl, rfl, by omega, by simp [hexTop], rfl, rfl, by omega⟩
     case round =>
      obtain ⟨k, n, x, rfl, rfl, rfl, hkn, hk, hx, hg1, hg2, hf⟩ := hrel
      have hxt := hexTop_le n
      have hx' : x < 16777216 := by omega
      obtain ⟨q, hq⟩ := gen (at0 + 1 + k)
      by_cases hlt2 : q < ls.length ∧ 0 < n
      · obtain ⟨h1, h2⟩ := hlt2
        obtain ⟨m, rfl⟩ : ∃ m, n = m + 1 := ⟨n - 1, by omega⟩
        obtain ⟨g', rfl⟩ : ∃ g', gk = g' + 1 := ⟨gk - 1, by omega⟩
        have y0 : (0 : Int) ≤ (q : Int) := by omega
        have y1 : (q : Int) < (ls.length : Int) := by omega
        have y2 : (q : Int) - ((at0 : Int) + 1) < 6 := by omega
        rw [hq] at hg1 hg2 hk ⊢
        rw [hexGo_at _ _ _ _ h1] at hg1 hg2
        obtain ⟨z0, z1⟩ := HL.out q h1
        have zr := HR.out _ (List.getElem_mem h1)
        have hd := hexDigit_any ls[q].1 wr zr.1 zr.2
        obtain ⟨⟨c0, c1⟩, hc⟩ := gen (ls[q])
        rw [hc] at z0 z1 zr hd hg1 hg2
        cases hv : hexV c0 with
        | none =>
         rw [hv] at hd hg1 hg2
         have HD : Hid (Calls prog 201 #[.int .i32 c0] wr fun e w' => e = .returned (.tuple #[.int .i32 0, .bool false]) ∧ w' = wr) := hd
         have hA := HX.out k x hg1 (by simpa using hg2)
         clear hd hg1 hg2 HX hv zr hc
         go_wp2_with fail
         refine HD.out.mono ?_
         rintro e w' ⟨rfl, rfl⟩
         clear z0 z1
         by_cases k0 : k = 0
         · have tq : ((q : Int) == (at0 : Int) + 1) = true := by rw [beq_iff_eq]; omega
           obtain rfl : ans = none := by rw [hA]; unfold hexTail; split <;> simp [k0]
           clear hA
           go_wp2_with fail
           go_ret3
           exact ⟨rfl, rfl⟩
         · have tq : ((q : Int) == (at0 : Int) + 1) = false := bfn (by omega)
           by_cases hq2 : q < ls.length
           · have tl : ¬ (ls.length : Int) ≤ (q : Int) := by omega
             have y0' : (0 : Int) ≤ (q : Int) := by omega
             have y1' : (q : Int) < (ls.length : Int) := by omega
             obtain ⟨u0, u1⟩ := HL.out q hq2
             have hA' : ans = if ls[q].1 ≠ 125 ∨ isRuneP x = false then none else some (x, k + 2) := by
              rw [hA]; unfold hexTail; rw [hq, drop_at ls q hq2]; simp [k0]
             obtain ⟨⟨d0, d1⟩, hd⟩ := gen (ls[q])
             rw [hd] at u0 u1 hA'
             clear hA hd
             by_cases h125 : d0 = 125
             · subst h125
               have HI : Hid (Calls prog 202 #[.int .i32 x] w' fun e v' => e = .returned (.bool (isRuneP x)) ∧ v' = w') := isRune_any x w'
               cases hR : isRuneP x with
               | false =>
                rw [hR] at HI
                obtain rfl : ans = none := by rw [hA', hR]; simp
                clear hA' hR
                go_wp2_with fail
                refine HI.out.mono ?_
                rintro e w' ⟨rfl, rfl⟩
                go_wp2_with fail
                go_ret3
                exact ⟨rfl, rfl⟩
               | true =>
                rw [hR] at HI
                obtain rfl : ans = some (x, k + 2) := by rw [hA', hR]; simp
                clear hA' hR
                go_wp2_with fail
                refine HI.out.mono ?_
                rintro e w' ⟨rfl, rfl⟩
                go_wp2_with fail
                go_ret3
                exact ⟨by simp [escV]; omega, rfl⟩
             · have hne : (d0 != 125) = true := bne_iff_ne.2 h125
               obtain rfl : ans = none := by rw [hA']; simp [h125]
               clear hA'
               go_wp2_with fail
               go_ret3
               exact ⟨rfl, rfl⟩
           · have tl : (ls.length : Int) ≤ (q : Int) := by omega
             obtain rfl : ans = none := by rw [hA]; unfold hexTail; rw [hq, List.drop_of_length_le (by omega)]
             clear hA
             go_wp2_with fail
             go_ret3
             exact ⟨rfl, rfl⟩
        | some d =>
         rw [hv] at hd hg1 hg2
         have HD : Hid (Calls prog 201 #[.int .i32 c0] wr fun e w' => e = .returned (.tuple #[.int .i32 d, .bool true]) ∧ w' = wr) := hd
         have hdl := hexV_lt hv
         have hst := hexTop_step (by omega) hx hdl
         have HG1 : Hid ((hexGo 6 0 (ls.drop (at0 + 1))).1 = (hexGo m (x * 16 + d) (ls.drop (q + 1))).1) := hg1
         have HG2 : Hid ((hexGo 6 0 (ls.drop (at0 + 1))).2 = (hexGo m (x * 16 + d) (ls.drop (q + 1))).2 + 1 + k) := hg2
         have hmt := hexTop_le m
         have b1 : x * 16 ≤ 268435456 := by omega
         have b0 : 0 ≤ x * 16 := by omega
         clear hd hg1 hg2 hv zr hc
         go_wp2_with fail
         refine HD.out.mono ?_
         rintro e w' ⟨rfl, rfl⟩
         go_wp2
         go_roundg g'
         case measure => omega
         case rel => exact ⟨k + 1, m, x * 16 + d, by go_num, by go_num, rfl, by omega, by omega, hst, by rw [HG1.out]; congr 3; omega, by rw [HG2.out, show at0 + 1 + (k + 1) = q + 1 by omega]; omega, by omega⟩
      · have hz : hexGo n x (ls.drop (at0 + 1 + k)) = (x, 0) := by
         by_cases hn0 : n = 0
         · subst hn0; rfl
         · rw [List.drop_of_length_le (by omega)]
           cases n with
           | zero => rfl
           | succ n => rfl
        rw [hz] at hg1 hg2
        have hA := HX.out k x hg1 (by simpa using hg2)
        rw [hq] at hk ⊢
        clear hg1 hg2 HX hz
        by_cases e1 : q < ls.length
        · have y1 : (q : Int) < (ls.length : Int) := by omega
          have y2 : ¬ (q : Int) - ((at0 : Int) + 1) < 6 := by omega
          by_cases k0 : k = 0
          · have tq : ((q : Int) == (at0 : Int) + 1) = true := by rw [beq_iff_eq]; omega
            obtain rfl : ans = none := by rw [hA]; unfold hexTail; split <;> simp [k0]
            clear hA
            go_wp2_with fail
            go_ret3
            exact ⟨rfl, rfl⟩
          · have tq : ((q : Int) == (at0 : Int) + 1) = false := bfn (by omega)
            by_cases hq2 : q < ls.length
            · have tl : ¬ (ls.length : Int) ≤ (q : Int) := by omega
              have y0' : (0 : Int) ≤ (q : Int) := by omega
              have y1' : (q : Int) < (ls.length : Int) := by omega
              obtain ⟨u0, u1⟩ := HL.out q hq2
              have hA' : ans = if ls[q].1 ≠ 125 ∨ isRuneP x = false then none else some (x, k + 2) := by
               rw [hA]; unfold hexTail; rw [hq, drop_at ls q hq2]; simp [k0]
              obtain ⟨⟨d0, d1⟩, hd⟩ := gen (ls[q])
              rw [hd] at u0 u1 hA'
              clear hA hd
              by_cases h125 : d0 = 125
              · subst h125
                have HI : Hid (Calls prog 202 #[.int .i32 x] wr fun e v' => e = .returned (.bool (isRuneP x)) ∧ v' = wr) := isRune_any x wr
                cases hR : isRuneP x with
                | false =>
                 rw [hR] at HI
                 obtain rfl : ans = none := by rw [hA', hR]; simp
                 clear hA' hR
                 go_wp2_with fail
                 refine HI.out.mono ?_
                 rintro e w' ⟨rfl, rfl⟩
                 go_wp2_with fail
                 go_ret3
                 exact ⟨rfl, rfl⟩
                | true =>
                 rw [hR] at HI
                 obtain rfl : ans = some (x, k + 2) := by rw [hA', hR]; simp
                 clear hA' hR
                 go_wp2_with fail
                 refine HI.out.mono ?_
                 rintro e w' ⟨rfl, rfl⟩
                 go_wp2_with fail
                 go_ret3
                 exact ⟨by simp [escV]; omega, rfl⟩
              · have hne : (d0 != 125) = true := bne_iff_ne.2 h125
                obtain rfl : ans = none := by rw [hA']; simp [h125]
                clear hA'
                go_wp2_with fail
                go_ret3
                exact ⟨rfl, rfl⟩
            · have tl : (ls.length : Int) ≤ (q : Int) := by omega
              obtain rfl : ans = none := by rw [hA]; unfold hexTail; rw [hq, List.drop_of_length_le (by omega)]
              clear hA
              go_wp2_with fail
              go_ret3
              exact ⟨rfl, rfl⟩
        · have y1 : ¬ (q : Int) < (ls.length : Int) := by omega
          by_cases k0 : k = 0
          · have tq : ((q : Int) == (at0 : Int) + 1) = true := by rw [beq_iff_eq]; omega
            obtain rfl : ans = none := by rw [hA]; unfold hexTail; split <;> simp [k0]
            clear hA
            go_wp2_with fail
            go_ret3
            exact ⟨rfl, rfl⟩
          · have tq : ((q : Int) == (at0 : Int) + 1) = false := bfn (by omega)
            by_cases hq2 : q < ls.length
            · exact absurd hq2 e1
            · have tl : (ls.length : Int) ≤ (q : Int) := by omega
              obtain rfl : ans = none := by rw [hA]; unfold hexTail; rw [hq, List.drop_of_length_le (by omega)]
              clear hA
              go_wp2_with fail
              go_ret3
              exact ⟨rfl, rfl⟩
   · have hne : (ls[at0].1 != 123) = true := bne_iff_ne.2 hb
     rw [show hexEsc (ls.drop at0) = none by rw [drop_at ls at0 hlt]; simp [hexEsc, hb]]
     generalize ls[at0].1 = c0 at *
     clear hl hr
     go_enter func177, ntmps177
     go_wp2
     go_ret3
     exact ⟨rfl, rfl⟩
 · have hz1 : (ls.length : Int) ≤ (at0 : Int) := by omega
   rw [List.drop_of_length_le (by omega)]
   go_enter func177, ntmps177
   go_wp2
   go_ret3
   exact ⟨rfl, rfl⟩
open Go.RowKit Go.Lib Go.Maps
theorem keyed21 : Keyed prog 21 := int_keyed underlying21
theorem zero21 (w : World) : (zeroValue 21).run prog w = .ok (.int .i32 0) w := by kernel_rfl
def escD : DataW Unit := ((((DataW.map []).put (.int .i32 34) (.lit (.int .i32 34))).put (.int .i32 92) (.lit (.int .i32 92))).put (.int .i32 110) (.lit (.int .i32 10))).put (.int .i32 116) (.lit (.int .i32 9))
def Esc (w : World) (b : Nat) : Prop := w.ownsMap prog 21 (plainElem (H := Unit) prog 21) b 4 escD
theorem below_map {w w1 w2 : World} (h : Below w.heap.size w w1) (hg : w1.grownBy w2 (some w.heap.size)) : Below w.heap.size w w2 :=
 ⟨hg.os.trans h.os, hg.tape.trans h.tape, hg.output.trans h.output, Nat.le_trans h.size hg.size, fun i hi => (hg.block i (nlt hi h.size) (by simp; omega)).trans (h.block i hi)⟩
theorem escapes_any (w : World) : Calls prog 178 #[] w fun e w' => e = .returned (.map (some w.heap.size)) ∧ Esc w' w.heap.size ∧ Below w.heap.size w w' := by
 have hmm := @run_makeMap prog
 have h0 := World.ownsMap_made w prog 21 (plainElem (H := Unit) prog 21)
 have b0 : Below w.heap.size w (w.alloc (.map #[] 0)) := (Below.refl _ _).alloc (Nat.le_refl _) _
 obtain ⟨w1, r1, h1, g1⟩ := h0.update keyed21 underlying218 (by unfold maxLen; omega) (key := .int .i32 34) (val := .int .i32 34) (keyOf_int_mk underlying21 (by decide)) (plainElem_int underlying21 (by decide))
 obtain ⟨w2, r2, h2, g2⟩ := h1.update keyed21 underlying218 (by unfold maxLen; omega) (key := .int .i32 92) (val := .int .i32 92) (keyOf_int_mk underlying21 (by decide)) (plainElem_int underlying21 (by decide))
 obtain ⟨w3, r3, h3, g3⟩ := h2.update keyed21 underlying218 (by unfold maxLen; omega) (key := .int .i32 110) (val := .int .i32 10) (keyOf_int_mk underlying21 (by decide)) (plainElem_int underlying21 (by decide))
 obtain ⟨w4, r4, h4, g4⟩ := h3.update keyed21 underlying218 (by unfold maxLen; omega) (key := .int .i32 116) (val := .int .i32 9) (keyOf_int_mk underlying21 (by decide)) (plainElem_int underlying21 (by decide))
 have H4 : Hid (Esc w4 w.heap.size) := h4
 have B4 : Hid (Below w.heap.size w w4) := below_map (below_map (below_map (below_map b0 g1) g2) g3) g4
 clear h0 h1 h2 h3 h4 g1 g2 g3 g4 b0
 go_enter func178, ntmps178
 go_wp2
 go_ret
 exact ⟨rfl, H4.out, B4.out⟩
def escR (c : Int) : Option Int := if c = 34 then some 34 else if c = 92 then some 92 else if c = 110 then some 10 else if c = 116 then some 9 else none
theorem lit_ne {a b : Int} (h : a ≠ b) : Lit.int .i32 a ≠ Lit.int .i32 b := fun e => h (by injection e)
theorem esc_look (c : Int) (hc : -2147483648 ≤ c ∧ c ≤ 2147483647) (w : World) (b : Nat) (h : Esc w b) :
 (Instr.lookup 218 (.map (some b)) (.int .i32 c) true).run prog w = .ok (.tuple #[.int .i32 ((escR c).getD 0), .bool (escR c).isSome]) w := by
 have hw : (Lit.int .i32 c).wf = true := by simp only [Lit.wf, Bool.and_eq_true, decide_eq_true_eq]; exact hc
 obtain ⟨v, ps, hr, hv⟩ := World.ownsMap.look_ok h keyed21 underlying218 (zero21 w) (plainElem_int underlying21 (by decide)) (keyOf_int_mk underlying21 hw)
 obtain ⟨a, rfl, ha, _⟩ := plainElem_int_inv underlying21 hv
 have ha' : escD.atKey (.int .i32 c) (.lit (.int .i32 0)) = .lit (.int .i32 a) := congrArg Prod.fst ha
 rw [hr]
 have i0 : IsMap (DataW.map [] : DataW Unit) := isMap_empty
 have i1 := i0.put (.int .i32 34) (.lit (.int .i32 34))
 have i2 := i1.put (.int .i32 92) (.lit (.int .i32 92))
 have i3 := i2.put (.int .i32 110) (.lit (.int .i32 10))
 have kl : ∀ n : Int, WideAt.IsKeyLit (.int .i32 n) := fun n => by simp [WideAt.IsKeyLit]
 have key : a = (escR c).getD 0 ∧ has escD (.int .i32 c) = (escR c).isSome := by
  unfold escD at ha' ⊢
  by_cases h116 : c = 116
  · subst h116
    rw [atKey_put_same i3 (kl _)] at ha'
    rw [has_put_same i3 (kl _)]
    injection ha' with e; injection e with _ e; subst e; exact ⟨rfl, rfl⟩
  rw [atKey_put_other (lit_ne h116)] at ha'
  rw [has_put_other (lit_ne h116)]
  by_cases h110 : c = 110
  · subst h110
    rw [atKey_put_same i2 (kl _)] at ha'
    rw [has_put_same i2 (kl _)]
    injection ha' with e; injection e with _ e; subst e; exact ⟨rfl, rfl⟩
  rw [atKey_put_other (lit_ne h110)] at ha'
  rw [has_put_other (lit_ne h110)]
  by_cases h92 : c = 92
  · subst h92
    rw [atKey_put_same i1 (kl _)] at ha'
    rw [has_put_same i1 (kl _)]
    injection ha' with e; injection e with _ e; subst e; exact ⟨rfl, rfl⟩
  rw [atKey_put_other (lit_ne h92)] at ha'
  rw [has_put_other (lit_ne h92)]
  by_cases h34 : c = 34
  · subst h34
    rw [atKey_put_same i0 (kl _)] at ha'
    rw [has_put_same i0 (kl _)]
    injection ha' with e; injection e with _ e; subst e; exact ⟨rfl, rfl⟩
  rw [atKey_put_other (lit_ne h34)] at ha'
  rw [has_put_other (lit_ne h34)]
  have : escR c = none := by simp [escR, h34, h92, h110, h116]
  rw [this]
  refine ⟨?_, rfl⟩
  have e : (DataW.map [] : DataW Unit).atKey (.int .i32 c) (.lit (.int .i32 0)) = .lit (.int .i32 0) := rfl
  rw [e] at ha'
  simp only [DataW.lit.injEq, Lit.int.injEq, true_and] at ha'
  exact ha'.symm
 rw [key.1, key.2]
theorem readEscape_any (b c at0 : Nat) (ls : List Let) (w : World) (hl : LetsAt w b ls) (hb : b < w.heap.size) (hn : ls.length ≤ 2048) (hr : ∀ x ∈ ls, -2147483648 ≤ x.1 ∧ x.1 ≤ 2147483647) (ha : at0 ≤ ls.length) :
 Calls prog 161 #[.slice (some ⟨b, 0, none⟩) ls.length c, .int .i64 at0] w fun e w' => e = .returned (escV at0 (escL (ls.drop at0))) ∧ Below w.heap.size w w' := by
 by_cases hlt : at0 < ls.length
 · have hz0 : (0 : Int) ≤ (at0 : Int) := by omega
   have hz1 : ¬ (ls.length : Int) ≤ (at0 : Int) := by omega
   have hz2 : (at0 : Int) < (ls.length : Int) := by omega
   obtain ⟨x0, x1⟩ := hl at0 hlt
   have zr := hr _ (List.getElem_mem hlt)
   have HH := readHex_any b c (at0 + 1) ls w hl hn hr (by omega)
   rw [drop_at ls at0 hlt]
   obtain ⟨⟨c0, c1⟩, hc⟩ := gen (ls[at0])
   rw [hc] at x0 x1 zr ⊢
   by_cases h117 : c0 = 117
   · subst h117
     have e : escV at0 (escL ((117, c1) :: ls.drop (at0 + 1))) = escV (at0 + 1) (hexEsc (ls.drop (at0 + 1))) := by
      simp only [escL, if_true]
      cases hexEsc (ls.drop (at0 + 1)) with
      | none => rfl
      | some p => simp [escV]; omega
     rw [e]
     rw [show (((at0 + 1 : Nat)) : Int) = (at0 : Int) + 1 by omega] at HH
     obtain ⟨r1, r2, r3, hans⟩ : ∃ r n t, escV (at0 + 1) (hexEsc (ls.drop (at0 + 1))) = .tuple #[.int .i32 r, .int .i64 n, .bool t] := by
      cases hexEsc (ls.drop (at0 + 1)) with
      | none => exact ⟨_, _, _, rfl⟩
      | some p => exact ⟨_, _, _, rfl⟩
     rw [hans] at HH ⊢
     have H1 : Hid (Calls prog 177 #[.slice (some ⟨b, 0, none⟩) ls.length c, .int .i64 ((at0 : Int) + 1)] w fun e w' => e = .returned (.tuple #[.int .i32 r1, .int .i64 r2, .bool r3]) ∧ w' = w) := HH
     clear HH hans e hl hr hc x1
     go_enter func161, ntmps161
     go_wp2_with fail
     refine H1.out.mono ?_
     rintro e w' ⟨rfl, rfl⟩
     go_wp2
     go_ret3
     exact ⟨rfl, Below.refl _ _⟩
   · have hne : (c0 == 117) = false := bfn h117
     have e : escL ((c0, c1) :: ls.drop (at0 + 1)) = (escR c0).map (fun r => (r, 1)) := by
      simp only [escL, if_neg h117, escR]
      split <;> (try rfl)
      split <;> (try rfl)
      split <;> (try rfl)
      split <;> rfl
     rw [e]
     have HE : Hid (∀ W B, Esc W B → (Instr.lookup 218 (.map (some B)) (.int .i32 c0) true).run prog W = .ok (.tuple #[.int .i32 ((escR c0).getD 0), .bool (escR c0).isSome]) W) := fun W B h => esc_look c0 zr W B h
     have x0' : ∀ W, Below w.heap.size w W → W.cell? ⟨b, at0 * 2, none⟩ = some (.int .i32 c0) := fun W h => by rw [h.cell (p := ⟨b, _, none⟩) hb]; exact x0
     have HX : Hid (∀ W, Below w.heap.size w W → W.cell? ⟨b, at0 * 2, none⟩ = some (.int .i32 c0)) := x0'
     clear HH e hl hr hc x1 x0'
     have E66 : Hid (∀ W, Calls prog 178 #[] W fun e w' => e = .returned (.map (some W.heap.size)) ∧ Esc w' W.heap.size ∧ Below W.heap.size W w') := escapes_any
     have xd : w.drew.cell? ⟨b, at0 * 2, none⟩ = some (.int .i32 c0) := x0
     cases hE : escR c0 with
     | none =>
      rw [hE] at HE
      clear hE
      go_enter func161, ntmps161
      go_wp2_with fail
      go_region_held3 (fun w' => w'.cell? ⟨b, at0 * 2, none⟩ = some (.int .i32 c0)) (first | (rw [hBa.cell (by simpa using hb)]; assumption) | go_keep)
       ((first | (go_at_call 178; refine (E66.out _).mono ?_; rintro e wa ⟨rfl, hEs, hBa⟩; have hlk : (Instr.lookup 218 (.map (some w.heap.size)) (.int .i32 c0) true).run prog wa = .ok (.tuple #[.int .i32 0, .bool false]) wa := HE.out _ _ hEs)))
      go_wp2
      go_ret3
      exact ⟨rfl, (Below.refl _ w).drew.trans hBa⟩
     | some r =>
      rw [hE] at HE
      clear hE
      go_enter func161, ntmps161
      go_wp2_with fail
      go_region_held3 (fun w' => w'.cell? ⟨b, at0 * 2, none⟩ = some (.int .i32 c0)) (first | (rw [hBa.cell (by simpa using hb)]; assumption) | go_keep)
       ((first | (go_at_call 178; refine (E66.out _).mono ?_; rintro e wa ⟨rfl, hEs, hBa⟩; have hlk : (Instr.lookup 218 (.map (some w.heap.size)) (.int .i32 c0) true).run prog wa = .ok (.tuple #[.int .i32 r, .bool true]) wa := HE.out _ _ hEs)))
      go_wp2
      go_ret3
      exact ⟨by simp [escV], (Below.refl _ w).drew.trans hBa⟩
 · have hz1 : (ls.length : Int) ≤ (at0 : Int) := by omega
   rw [List.drop_of_length_le (by omega)]
   clear hl hr
   go_enter func161, ntmps161
   go_wp2
   go_ret3
   exact ⟨rfl, Below.refl _ _⟩
end Go.Proofs.YtfifphfihdhlaaaGreatDoor
