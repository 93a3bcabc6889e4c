/- Blanks, remarks, ends of words, digits of hexadecimal: what the small functions of lex answer. -/
import Derived.Test.YtfifphfihdhlaaaGreatDoorChecked
import Derived.Deep.LoopGhost
import Derived.Deep.DeepFit
import Derived.WalkSmall
import Derived.ProofKit
import Derived.Lib.Walk
import Derived.Shelf.RegionOpenPlain
set_option maxRecDepth 100000
set_option maxHeartbeats 32000000
namespace Go.Proofs.YtfifphfihdhlaaaGreatDoor
open Tryz
open Go.RowKit Go.Lib
set_option linter.unusedVariables false
theorem bya (l : List UInt8) : ∃ s : ByteArray, (⟨l.toArray⟩ : ByteArray) = s := ⟨_, rfl⟩
theorem gen.{u} {α : Sort u} (a : α) : ∃ x, a = x := ⟨a, rfl⟩
theorem bfn {α : Type} [BEq α] [LawfulBEq α] {a b : α} (h : a ≠ b) : (a == b) = false := beq_eq_false_iff_ne.2 h
theorem nlt {a b c : Nat} (h : a < b) (g : b ≤ c) : a < c := Nat.lt_of_lt_of_le h g
theorem gsi {α : Type} {xs : Array α} {i : Nat} {a : α} (h : xs[i]? = some a) : ∃ g : i < xs.size, xs[i] = a := Array.getElem?_eq_some_iff.1 h
abbrev Let := Int × Bool
def LetsAt (w : World) (b : Nat) (ls : List Let) : Prop :=
 ∀ (j : Nat) (h : j < ls.length), w.cell? ⟨b, j * 2, none⟩ = some (.int .i32 ls[j].1) ∧ w.cell? ⟨b, j * 2 + 1, none⟩ = some (.bool ls[j].2)
def remL : List Let → Nat
 | [] => 0
 | x :: l => if x.1 = 10 then 0 else remL l + 1
def isBl (c : Int) : Bool := c == 32 || c == 9 || c == 10 || c == 13
def skipL : Bool → List Let → Nat
 | _, [] => 0
 | true, x :: l => if x.1 = 10 then skipL false l + 1 else skipL true l + 1
 | false, x :: l => if isBl x.1 then skipL false l + 1 else if x.1 = 59 then skipL true l + 1 else 0
theorem remL_le : ∀ l, remL l ≤ l.length
 | [] => Nat.le_refl _
 | x :: l => by unfold remL; have := remL_le l; split <;> simp <;> omega
theorem skipL_le : ∀ (b : Bool) l, skipL b l ≤ l.length
 | b, [] => by cases b <;> exact Nat.le_refl _
 | true, x :: l => by have h1 := skipL_le false l; have h2 := skipL_le true l; simp only [skipL]; split <;> simp <;> omega
 | false, x :: l => by have h1 := skipL_le false l; have h2 := skipL_le true l; simp only [skipL]; split <;> (try split) <;> simp <;> omega
theorem skipL_rem : ∀ l, skipL true l = remL l + skipL false (l.drop (remL l))
 | [] => rfl
 | x :: l => by
  simp only [skipL, remL]
  split
  · rename_i h; simp [skipL, isBl, h]
  · rw [skipL_rem l, List.drop_succ_cons]; omega
theorem drop_at {α : Type} (l : List α) (k : Nat) (h : k < l.length) : l.drop k = l[k] :: l.drop (k + 1) := List.drop_eq_getElem_cons h
theorem retI {k : IntKind} {n m : Int} (h : n = m) : Ending.returned (.int k n) = Ending.returned (.int k m) := by rw [h]
theorem skipRemark_any (b c at0 : Nat) (ls : List Let) (w : World) (hl : LetsAt w b ls) (hn : ls.length ≤ 2048) (ha : at0 ≤ ls.length) :
 Calls prog 146 #[.slice (some ⟨b, 0, none⟩) ls.length c, .int .i64 at0] w fun e w' => e = .returned (.int .i64 ((at0 + remL (ls.drop at0) : Nat) : Int)) ∧ w' = w := by
 go_enter func146, ntmps146
 go_wp2
 go_loopg [1] ls.length (fun gf s1 wx => ∃ k : Nat, s1 = .int .i64 k ∧ k ≤ ls.length ∧ wx = w ∧ k + remL (ls.drop k) = at0 + remL (ls.drop at0) ∧ ls.length ≤ k + gf)
 case atStart => exact ⟨at0, rfl, ha, rfl, rfl, by omega⟩
 case round =>
  obtain ⟨k, rfl, hk, rfl, hr, hf⟩ := hrel
  by_cases hlt : k < ls.length
  · obtain ⟨g', rfl⟩ : ∃ g', gk = g' + 1 := ⟨gk - 1, by omega⟩
    have hz0 : (0 : Int) ≤ (k : Int) := by omega
    have hz1 : (k : Int) < (ls.length : Int) := by omega
    obtain ⟨x0, x1⟩ := hl k hlt
    rw [drop_at ls k hlt] at hr
    obtain ⟨⟨c0, c1⟩, hc⟩ : ∃ v, ls[k] = v := ⟨_, rfl⟩
    rw [hc] at x0 x1 hr
    by_cases h10 : c0 = 10
    · subst h10
      have HR : Hid (k + remL ((10, c1) :: ls.drop (k + 1)) = at0 + remL (ls.drop at0)) := hr
      clear hr hl hc
      go_wp2
      go_ret
      exact ⟨retI (by have := HR.out; simp [remL] at this; omega), rfl⟩
    · have hne : (c0 != 10) = true := bne_iff_ne.2 h10
      have HR : Hid (k + remL ((c0, c1) :: ls.drop (k + 1)) = at0 + remL (ls.drop at0)) := hr
      clear hr hl hc
      go_wp2
      go_roundg g'
      case measure => omega
      case rel => exact ⟨k + 1, by go_num, hlt, rfl, by have := HR.out; simp [remL, h10] at this; omega, by omega⟩
  · have hm : ¬ (k : Int) < (ls.length : Int) := by omega
    have HR : Hid (k + remL (ls.drop k) = at0 + remL (ls.drop at0)) := hr
    clear hl hr
    go_wp2
    go_ret
    exact ⟨retI (by have := HR.out; rw [List.drop_of_length_le (by omega)] at this; simp [remL] at this; omega), rfl⟩
theorem skipBlanks_any (b c at0 : Nat) (ls : List Let) (w : World) (hl : LetsAt w b ls) (hn : ls.length ≤ 2048) (ha : at0 ≤ ls.length) :
 Calls prog 129 #[.slice (some ⟨b, 0, none⟩) ls.length c, .int .i64 at0] w fun e w' => e = .returned (.int .i64 ((at0 + skipL false (ls.drop at0) : Nat) : Int)) ∧ w' = w := by
 have CR : Hid (∀ k : Nat, k ≤ ls.length → Calls prog 146 #[.slice (some ⟨b, 0, none⟩) ls.length c, .int .i64 k] w fun e w' => e = .returned (.int .i64 ((k + remL (ls.drop k) : Nat) : Int)) ∧ w' = w) := fun k hk => skipRemark_any b c k ls w hl hn hk
 go_enter func129, ntmps129
 go_wp2
 go_loopg [1] ls.length (fun gf s1 wx => ∃ k : Nat, s1 = .int .i64 k ∧ k ≤ ls.length ∧ wx = w ∧ k + skipL false (ls.drop k) = at0 + skipL false (ls.drop at0) ∧ ls.length ≤ k + gf)
 case atStart => exact ⟨at0, rfl, ha, rfl, rfl, by omega⟩
 case round =>
  obtain ⟨k, rfl, hk, rfl, hr, hf⟩ := hrel
  by_cases hlt : k < ls.length
  · obtain ⟨g', rfl⟩ : ∃ g', gk = g' + 1 := ⟨gk - 1, by omega⟩
    have hz0 : (0 : Int) ≤ (k : Int) := by omega
    have hz1 : (k : Int) < (ls.length : Int) := by omega
    obtain ⟨x0, x1⟩ := hl k hlt
    have cr := CR.out k hk
    rw [drop_at ls k hlt] at hr cr
    obtain ⟨⟨c0, c1⟩, hc⟩ : ∃ v, ls[k] = v := ⟨_, rfl⟩
    rw [hc] at x0 x1 hr cr
    have HR : Hid (k + skipL false ((c0, c1) :: ls.drop (k + 1)) = at0 + skipL false (ls.drop at0)) := hr
    by_cases hbl : isBl c0 = true
    · have hor : c0 = 32 ∨ c0 = 9 ∨ c0 = 10 ∨ c0 = 13 := by simpa [isBl, or_assoc] using hbl
      have hnext : k + 1 + skipL false (ls.drop (k + 1)) = at0 + skipL false (ls.drop at0) := by have := HR.out; simp [skipL, hbl] at this; omega
      have HN : Hid (k + 1 + skipL false (ls.drop (k + 1)) = at0 + skipL false (ls.drop at0)) := hnext
      clear hr hl hc cr CR HR hnext hbl
      rcases hor with rfl | rfl | rfl | rfl
      all_goals
       go_wp2
       go_roundg g'
       case measure => omega
       case rel => exact ⟨k + 1, by go_num, hlt, rfl, HN.out, by omega⟩
    · by_cases h59 : c0 = 59
      · subst h59
        have hrem : remL ((59, c1) :: ls.drop (k + 1)) = remL (ls.drop (k + 1)) + 1 := by simp [remL]
        have hle := remL_le (ls.drop (k + 1))
        rw [List.length_drop] at hle
        rw [hrem] at cr
        have hq : k + skipL false ((59, c1) :: ls.drop (k + 1)) = k + (remL (ls.drop (k + 1)) + 1) + skipL false (ls.drop (k + (remL (ls.drop (k + 1)) + 1))) := by
         have e := skipL_rem (ls.drop (k + 1))
         rw [List.drop_drop] at e
         rw [show k + (remL (ls.drop (k + 1)) + 1) = k + 1 + remL (ls.drop (k + 1)) by omega]
         simp only [skipL, isBl] at e ⊢
         simp only [show ((59 : Int) == 32 || (59 : Int) == 9 || (59 : Int) == 10 || (59 : Int) == 13) = false by decide]
         simp
         omega
        rw [hq] at hr
        obtain ⟨R, hR⟩ : ∃ R, remL (ls.drop (k + 1)) + 1 = R := ⟨_, rfl⟩
        rw [hR] at cr hr
        have hR1 : 1 ≤ R ∧ k + R ≤ ls.length := by omega
        have CR' : Hid (Calls prog 146 #[.slice (some ⟨b, 0, none⟩) ls.length c, .int .i64 k] wr fun e w' => e = .returned (.int .i64 ((k + R : Nat) : Int)) ∧ w' = wr) := cr
        have HR' : Hid (k + R + skipL false (ls.drop (k + R)) = at0 + skipL false (ls.drop at0)) := hr
        clear hr hl hc cr CR HR hq hR hrem hle hbl
        go_wp2_with fail
        refine CR'.out.mono ?_
        rintro e w' ⟨rfl, rfl⟩
        go_wp2
        go_roundg (g' - (R - 1))
        case measure => omega
        case rel => exact ⟨k + R, by go_num, hR1.2, rfl, HR'.out, by omega⟩
      · have n1 : c0 ≠ 32 := fun h => hbl (by simp [isBl, h])
        have n2 : c0 ≠ 9 := fun h => hbl (by simp [isBl, h])
        have n3 : c0 ≠ 10 := fun h => hbl (by simp [isBl, h])
        have n4 : c0 ≠ 13 := fun h => hbl (by simp [isBl, h])
        have e1 : (c0 == 32) = false := beq_eq_false_iff_ne.2 n1
        have e2 : (c0 == 9) = false := beq_eq_false_iff_ne.2 n2
        have e3 : (c0 == 10) = false := beq_eq_false_iff_ne.2 n3
        have e4 : (c0 == 13) = false := beq_eq_false_iff_ne.2 n4
        have e5 : (c0 == 59) = false := beq_eq_false_iff_ne.2 h59
        have hz : k = at0 + skipL false (ls.drop at0) := by have := HR.out; simp [skipL, hbl, h59] at this; omega
        have HZ : Hid (k = at0 + skipL false (ls.drop at0)) := hz
        clear hr hl hc cr CR HR hz hbl n1 n2 n3 n4
        go_wp2
        go_ret
        exact ⟨retI (by have := HZ.out; omega), rfl⟩
  · have hm : ¬ (k : Int) < (ls.length : Int) := by omega
    have HR : Hid (k + skipL false (ls.drop k) = at0 + skipL false (ls.drop at0)) := hr
    clear hl hr CR
    go_wp2
    go_ret
    exact ⟨retI (by have := HR.out; rw [List.drop_of_length_le (by omega)] at this; simp [skipL] at this; omega), rfl⟩
def isEnd (c : Int) : Bool := isBl c || c == 59 || c == 40 || c == 41 || c == 34
theorem endsWord_any (r : Int) (w : World) : Calls prog 165 #[.int .i32 r] w fun e w' => e = .returned (.bool (isEnd r)) ∧ w' = w := by
 by_cases h : isEnd r = true
 · have hor : r = 32 ∨ r = 9 ∨ r = 10 ∨ r = 13 ∨ r = 59 ∨ r = 40 ∨ r = 41 ∨ r = 34 := by simpa [isEnd, isBl, or_assoc] using h
   rw [h]
   clear h
   rcases hor with rfl | rfl | rfl | rfl | rfl | rfl | rfl | rfl
   all_goals
    go_enter func165, ntmps165
    go_wp2
    go_ret
    exact ⟨rfl, rfl⟩
 · have h' : isEnd r = false := by simpa using h
   rw [h']
   simp only [isEnd, isBl, Bool.or_eq_false_iff] at h'
   obtain ⟨⟨⟨⟨⟨⟨⟨e1, e2⟩, e3⟩, e4⟩, e5⟩, e6⟩, e7⟩, e8⟩ := h'
   clear h
   go_enter func165, ntmps165
   go_wp2
   go_ret
   exact ⟨rfl, rfl⟩
end Go.Proofs.YtfifphfihdhlaaaGreatDoor
