/- What the reference's small functions of lex answer: blanks, ill, digit, hex, ends. -/
import Derived.Test.YtimnnebmjapneaaDoorPv
namespace Go.Proofs.YtimnnebmjapneaaDoor
open Go.RowKit Go.Lib
set_option linter.unusedVariables false
attribute [local go_sem ↓] Go.wp_at_zero Go.wp_at_succ

/-- Glyphs, wherever their slice begins. -/
def GA (w : World) (p : Option Addr) (ls : List Let) : Prop :=
  0 < ls.length → ∃ b o, p = some ⟨b, o, none⟩ ∧ b < w.heap.size ∧ ∀ (j : Nat) (h : j < ls.length), w.cell? ⟨b, o + j * 2, none⟩ = some (.int .i32 ls[j].1) ∧ w.cell? ⟨b, o + j * 2 + 1, none⟩ = some (.bool ls[j].2)
theorem GA.below {w W : World} {p : Option Addr} {ls : List Let} (h : GA w p ls) (hb : Below w.heap.size w W) : GA W p ls := by
  intro h0
  obtain ⟨b, o, rfl, hlt, hc⟩ := h h0
  refine ⟨b, o, rfl, Nat.lt_of_lt_of_le hlt hb.size, fun j hj => ?_⟩
  rw [hb.cell hlt, hb.cell hlt]
  exact hc j hj
def digR (r : Int) : Bool := decide (48 ≤ r) && decide (r ≤ 57)
set_option maxHeartbeats 400000 in
theorem digitR_any (r : Int) (w : World) : Calls Tryd.prog 40 #[.int .i32 r] w fun e w' => e = .returned (.bool (digR r)) ∧ w' = w := by
  by_cases h1 : 48 ≤ r
  · by_cases h2 : r ≤ 57
    · have t1 : decide (48 ≤ r) = true := by simpa using h1
      have t2 : decide (r ≤ 57) = true := by simpa using h2
      rw [show digR r = true by simp [digR, t1, t2]]
      go_enter Tryd.func40, Tryd.ntmps40
      go_wp2
      go_ret
      exact ⟨rfl, rfl⟩
    · have t1 : decide (48 ≤ r) = true := by simpa using h1
      have t2 : decide (r ≤ 57) = false := by simpa using h2
      rw [show digR r = false by simp [digR, t2]]
      go_enter Tryd.func40, Tryd.ntmps40
      go_wp2
      go_ret
      exact ⟨rfl, rfl⟩
  · have t1 : decide (48 ≤ r) = false := by simpa using h1
    rw [show digR r = false by simp [digR, t1]]
    go_enter Tryd.func40, Tryd.ntmps40
    go_wp2
    go_ret
    exact ⟨rfl, rfl⟩
def hexR (r : Int) : Int := (hexV r).getD 16
set_option maxHeartbeats 1000000 in
theorem hexR_any (r : Int) (w : World) (h0 : -2147483648 ≤ r) (h1 : r ≤ 2147483647) : Calls Tryd.prog 52 #[.int .i32 r] w fun e w' => e = .returned (.int .i32 (hexR r)) ∧ w' = w := by
  have CD : Hid (∀ W, Calls Tryd.prog 40 #[.int .i32 r] W fun e w' => e = .returned (.bool (digR r)) ∧ w' = W) := fun W => digitR_any r W
  by_cases a : 48 ≤ r ∧ r ≤ 57
  · rw [show hexR r = r - 48 by simp [hexR, hexV, a]]
    rw [show digR r = true by simp [digR, a]] at CD
    obtain ⟨a1, a2⟩ := a
    go_enter Tryd.func52, Tryd.ntmps52
    go_wp2_with fail
    refine (CD.out _).mono ?_
    rintro e w' ⟨rfl, rfl⟩
    go_wp2
    go_ret
    exact ⟨rfl, rfl⟩
  · rw [show digR r = false by simp only [digR, Bool.and_eq_false_iff, decide_eq_false_iff_not]; omega] at CD
    by_cases b1 : 97 ≤ r
    · by_cases b2 : r ≤ 102
      · rw [show hexR r = r - 87 by simp only [hexR, hexV]; rw [if_neg a, if_pos ⟨b1, b2⟩]; rfl]
        have t1 : decide (97 ≤ r) = true := by simpa using b1
        have t2 : decide (r ≤ 102) = true := by simpa using b2
        clear a
        go_enter Tryd.func52, Tryd.ntmps52
        go_wp2_with fail
        refine (CD.out _).mono ?_
        rintro e w' ⟨rfl, rfl⟩
        go_wp2
        go_ret
        exact ⟨retI (by omega), rfl⟩
      · rw [show hexR r = 16 by simp only [hexR, hexV]; rw [if_neg a, if_neg (by omega)]; rfl]
        have t1 : decide (97 ≤ r) = true := by simpa using b1
        have t2 : decide (r ≤ 102) = false := by simpa using b2
        clear a
        go_enter Tryd.func52, Tryd.ntmps52
        go_wp2_with fail
        refine (CD.out _).mono ?_
        rintro e w' ⟨rfl, rfl⟩
        go_wp2
        go_ret
        exact ⟨rfl, rfl⟩
    · rw [show hexR r = 16 by simp only [hexR, hexV]; rw [if_neg a, if_neg (by omega)]; rfl]
      have t1 : decide (97 ≤ r) = false := by simpa using b1
      clear a
      go_enter Tryd.func52, Tryd.ntmps52
      go_wp2_with fail
      refine (CD.out _).mono ?_
      rintro e w' ⟨rfl, rfl⟩
      go_wp2
      go_ret
      exact ⟨rfl, rfl⟩
theorem bad_drop (ls : List Let) (j : Nat) (h : j < ls.length) : anyBad (ls.drop j) = (ls[j].2 || anyBad (ls.drop (j + 1))) := by
  rw [List.drop_eq_getElem_cons h]
  rfl
set_option maxRecDepth 100000 in
set_option maxHeartbeats 4000000 in
theorem ill_any (p : Option Addr) (c : Nat) (ls : List Let) (w : World) (hg : GA w p ls) (hl : ls.length ≤ 2048) (T : Bool) (HT : Hid (anyBad ls = T)) :
    Calls Tryd.prog 37 #[.slice p ls.length c] w fun e w' => e = .returned (.bool T) ∧ Below w.heap.size w w' := by
  have HG : Hid (GA w p ls) := hg
  clear hg
  go_enter Tryd.func37, Tryd.ntmps37
  go_wp2
  go_loopg [7] ls.length (fun gf s7 wx => ∃ j : Nat, s7 = .int .i64 j ∧ j ≤ ls.length ∧ Below w.heap.size w wx ∧ Hid (anyBad (ls.drop j) = T) ∧ ls.length ≤ j + gf)
  case atStart => exact ⟨0, rfl, by omega, Below.refl _ _, HT, by omega⟩
  case round =>
    obtain ⟨j, rfl, hjl, hbw, HB, hgf⟩ := hrel
    by_cases hlt : j < ls.length
    · obtain ⟨g', rfl⟩ : ∃ g', gk = g' + 1 := ⟨gk - 1, by omega⟩
      have hz0 : (0 : Int) ≤ (j : Int) := by omega
      have hz1 : (j : Int) < (ls.length : Int) := by omega
      obtain ⟨b, o, rfl, hb, hc⟩ := HG.out (by omega)
      obtain ⟨x0, x1⟩ := hc j hlt
      rw [← hbw.cell (p := ⟨b, _, none⟩) hb] at x0 x1
      have hbr : b < wr.heap.size := Nat.lt_of_lt_of_le hb hbw.size
      have hd := HB.out
      rw [bad_drop ls j hlt] at hd
      obtain ⟨⟨r, bd⟩, hr⟩ : ∃ x, ls[j] = x := ⟨_, rfl⟩
      rw [hr] at x0 x1 hd
      simp only at x0 x1 hd
      clear hr HB hc HT
      cases bd with
      | true =>
        have hT : true = T := by simpa using hd
        subst hT
        clear hd
        go_wp2
        go_ret
        exact ⟨rfl, hbw.alloc hbw.size _⟩
      | false =>
        have HB2 : Hid (anyBad (ls.drop (j + 1)) = T) := by show _ = _; simpa using hd
        clear hd
        go_wp2
        go_roundg g'
        case measure => omega
        case rel => exact ⟨j + 1, by go_num, by omega, hbw.alloc hbw.size _, HB2, by omega⟩
    · have hlt' : ¬ (j : Int) < (ls.length : Int) := by omega
      have hT : false = T := by rw [← HB.out, List.drop_of_length_le (by omega)]; rfl
      subst hT
      clear HB HT
      go_wp2
      go_ret
      exact ⟨rfl, hbw⟩
theorem skip_drop (nt : Bool) (ls : List Let) (j : Nat) (h : j < ls.length) : skipL nt (ls.drop j) = (match nt with
    | true => if ls[j].1 = 10 then skipL false (ls.drop (j + 1)) + 1 else skipL true (ls.drop (j + 1)) + 1
    | false => if isBl ls[j].1 then skipL false (ls.drop (j + 1)) + 1 else if ls[j].1 = 59 then skipL true (ls.drop (j + 1)) + 1 else 0) := by
  rw [List.drop_eq_getElem_cons h]
  cases nt <;> rfl
theorem bl_iff (r : Int) : isBl r = true ↔ r = 32 ∨ r = 9 ∨ r = 10 ∨ r = 13 := by simp [isBl, or_assoc]
set_option maxRecDepth 100000 in
set_option maxHeartbeats 4000000 in
theorem blanks_any (p : Option Addr) (c : Nat) (ls : List Let) (w : World) (hg : GA w p ls) (hl : ls.length ≤ 2048) (T : Nat) (HT : Hid (skipL false ls = T)) :
    Calls Tryd.prog 14 #[.slice p ls.length c] w fun e w' => e = .returned (.int .i64 T) ∧ w' = w := by
  have HG : Hid (GA w p ls) := hg
  clear hg
  go_enter Tryd.func14, Tryd.ntmps14
  go_wp2
  go_loop [3, 4] (fun s3 s4 => ∃ (j : Nat) (nt : Bool), s3 = .int .i64 j ∧ s4 = .bool nt ∧ j ≤ ls.length ∧ Hid (j + skipL nt (ls.drop j) = T)) (fun s3 _ => ls.length - (RowKit.intOf s3).toNat)
  case atStart => exact ⟨0, false, rfl, rfl, by omega, (by show _ = _; have := HT.out; simpa using this)⟩
  case round =>
    obtain ⟨j, nt, rfl, rfl, hjl, HB⟩ := hrel
    by_cases hlt : j < ls.length
    · have hz0 : (0 : Int) ≤ (j : Int) := by omega
      have hz1 : (j : Int) < (ls.length : Int) := by omega
      obtain ⟨b, o, rfl, hb, hc⟩ := HG.out (by omega)
      obtain ⟨x0, x1⟩ := hc j hlt
      have hd := HB.out
      rw [skip_drop nt ls j hlt] at hd
      obtain ⟨⟨r, bd⟩, hr⟩ : ∃ x, ls[j] = x := ⟨_, rfl⟩
      rw [hr] at x0 x1 hd
      simp only at x0 x1 hd
      clear hr HB hc HT x1
      by_cases h59 : r = 59
      · subst h59
        have HB2 : Hid (j + 1 + skipL true (ls.drop (j + 1)) = T) := by
          show _ = _
          cases nt <;> simp [isBl] at hd <;> omega
        clear hd
        go_wp2
        exact ⟨⟨j + 1, true, by go_num, rfl, by omega, HB2⟩, by simp [RowKit.intOf]; omega⟩
      · have t59 : (r == 59) = false := beq_eq_false_iff_ne.2 h59
        by_cases h10 : r = 10
        · subst h10
          have HB2 : Hid (j + 1 + skipL false (ls.drop (j + 1)) = T) := by
            show _ = _
            cases nt <;> simp [isBl] at hd <;> omega
          clear hd
          cases nt
          all_goals
            go_wp2
            exact ⟨⟨j + 1, false, by go_num, rfl, by omega, HB2⟩, by simp [RowKit.intOf]; omega⟩
        · have t10 : (r == 10) = false := beq_eq_false_iff_ne.2 h10
          have n10 : (r != 10) = true := bne_iff_ne.2 h10
          cases nt with
          | true =>
            have HB2 : Hid (j + 1 + skipL true (ls.drop (j + 1)) = T) := by
              show _ = _
              simp [h10] at hd
              omega
            clear hd h59 h10
            go_wp2
            exact ⟨⟨j + 1, true, by go_num, rfl, by omega, HB2⟩, by simp [RowKit.intOf]; omega⟩
          | false =>
            by_cases h32 : r = 32
            · subst h32
              have HB2 : Hid (j + 1 + skipL false (ls.drop (j + 1)) = T) := by
                show _ = _
                simp [isBl] at hd
                omega
              clear hd h59 h10
              go_wp2
              exact ⟨⟨j + 1, false, by go_num, rfl, by omega, HB2⟩, by simp [RowKit.intOf]; omega⟩
            have n32 : (r != 32) = true := bne_iff_ne.2 h32
            by_cases h9 : r = 9
            · subst h9
              have HB2 : Hid (j + 1 + skipL false (ls.drop (j + 1)) = T) := by
                show _ = _
                simp [isBl] at hd
                omega
              clear hd h59 h10
              go_wp2
              exact ⟨⟨j + 1, false, by go_num, rfl, by omega, HB2⟩, by simp [RowKit.intOf]; omega⟩
            have n9 : (r != 9) = true := bne_iff_ne.2 h9
            by_cases h13 : r = 13
            · subst h13
              have HB2 : Hid (j + 1 + skipL false (ls.drop (j + 1)) = T) := by
                show _ = _
                simp [isBl] at hd
                omega
              clear hd h59 h10
              go_wp2
              exact ⟨⟨j + 1, false, by go_num, rfl, by omega, HB2⟩, by simp [RowKit.intOf]; omega⟩
            have n13 : (r != 13) = true := bne_iff_ne.2 h13
            have hT : j = T := by
              have hb0 : isBl r = false := by
                cases e : isBl r with
                | false => rfl
                | true => rcases (bl_iff r).1 e with e | e | e | e <;> omega
              simp [hb0, h59] at hd
              exact hd
            subst hT
            clear hd h59 h10 h32 h9 h13
            go_wp2
            go_ret
            exact ⟨rfl, rfl⟩
    · have hlt' : ¬ (j : Int) < (ls.length : Int) := by omega
      have hT : j = T := by
        have := HB.out
        rw [List.drop_of_length_le (by omega)] at this
        cases nt <;> simpa [skipL] using this
      subst hT
      clear HB HT
      go_wp2
      go_ret
      exact ⟨rfl, rfl⟩
end Go.Proofs.YtimnnebmjapneaaDoor
