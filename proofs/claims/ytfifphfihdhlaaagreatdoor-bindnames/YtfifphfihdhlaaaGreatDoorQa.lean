/- Words, aggregates, letters, digits: what the small functions of parse answer. -/
import Derived.Test.YtfifphfihdhlaaaGreatDoorChecked
import Derived.Laws.StructEq
import Derived.Deep.MidRow
import Derived.KernelRfl
import Derived.WalkKit
import Derived.WalkSpells
import Derived.WalkLawsBesides
import Derived.Lib.Walk
import Derived.LoopTactic
import Derived.Deep.LoopGhost
import Derived.Deep.DeepFit
import Derived.WalkSmall
import Derived.ProofKit
import Derived.Deep.RegionHeld3
import Derived.Deep.DrawnRows
import Derived.Deep.QuietTactic
import Derived.BigQuiet
import Derived.Lib.OthersKept
import Derived.Lib.LazyBuf
import Derived.Shelf.RegionOpenPlain
import Derived.Laws.AppendOwnNone
import Derived.Sort.Grow
import Derived.Lib.Hide
set_option maxRecDepth 100000
set_option maxHeartbeats 32000000
namespace Go.Proofs.YtfifphfihdhlaaaGreatDoor
open Tryz
open Go.Shelf Go.RowKit Go.Lib Go.Sort
set_option linter.unusedVariables false
set_option linter.unusedSimpArgs false
attribute [local go_sem ↓] Go.wp_at_zero Go.wp_at_succ
structure Stp where
 k : Nat
 t : List UInt8
 n : Int
def wordsP : List (List UInt8 × Nat) := [([110, 117, 108, 108], 1), ([116, 114, 117, 101], 2), ([102, 97, 108, 115, 101], 3), ([110, 101, 103], 7), ([110, 111, 116], 8), ([110, 117, 108, 108, 63], 9), ([108, 101, 110, 103, 116, 104], 10), ([43], 11), ([45], 12), ([42], 13), ([61], 14), ([60, 62], 15), ([60], 16), ([60, 61], 17), ([62], 18), ([62, 61], 19), ([97, 110, 100], 20), ([111, 114], 21)]
def aggsP : List (List UInt8 × Nat) := [([99, 111, 117, 110, 116], 1), ([115, 117, 109], 2), ([109, 105, 110], 3), ([109, 97, 120], 4)]
def lookP (l : List (List UInt8 × Nat)) (t : List UInt8) : Nat := match l with
 | [] => 0
 | x :: l => if x.1 = t then x.2 else lookP l t
def stepOfP (t : List UInt8) : Nat := lookP wordsP t
def aggOfP (t : List UInt8) : Nat := lookP aggsP t
def isConstP (t : List UInt8) : Bool := decide (1 ≤ stepOfP t) && decide (stepOfP t ≤ 3)
def isLetP (r : Int) : Bool := (decide (65 ≤ r) && decide (r ≤ 90)) || ((decide (97 ≤ r) && decide (r ≤ 122)) || (decide (r = 95) || decide (127 < r)))
def isDigP (r : Int) : Bool := decide (48 ≤ r) && decide (r ≤ 57)
def wordC : List Value := wordsP.flatMap fun x => [.string ⟨x.1.toArray⟩, .int .u8 (x.2 : Int)]
def aggC : List Value := aggsP.flatMap fun x => [.string ⟨x.1.toArray⟩, .int .u8 (x.2 : Int)]
def WordsIs (w : World) : Prop := w.rangeAt 2 0 wordC ∧ w.rangeAt 5 0 aggC
theorem WordsIs.below {w w' : World} (h : WordsIs w) (hb : Below w.heap.size w w') : WordsIs w' :=
 ⟨fun j u hu => (hb.cell (World.block_lt_of_cell? w _ (h.1 j u hu))).trans (h.1 j u hu), fun j u hu => (hb.cell (World.block_lt_of_cell? w _ (h.2 j u hu))).trans (h.2 j u hu)⟩
theorem stepOf_row : ∀ i : Nat, i < 18 → ∀ w : World, (Instr.index 194 (.agg wordC.toArray) (.int .i64 (i : Int))).run prog w = .ok (.agg #[.string ⟨((wordsP[i]?.getD ([], 0)).1).toArray⟩, .int .u8 (((wordsP[i]?.getD ([], 0)).2 : Nat) : Int)]) w := by
 intro i hi w
 match i, hi with
 | 0, _ => rfl
 | 1, _ => rfl
 | 2, _ => rfl
 | 3, _ => rfl
 | 4, _ => rfl
 | 5, _ => rfl
 | 6, _ => rfl
 | 7, _ => rfl
 | 8, _ => rfl
 | 9, _ => rfl
 | 10, _ => rfl
 | 11, _ => rfl
 | 12, _ => rfl
 | 13, _ => rfl
 | 14, _ => rfl
 | 15, _ => rfl
 | 16, _ => rfl
 | 17, _ => rfl
 | m + 18, h => exact absurd h (by omega)
theorem stepOf_any (s : ByteArray) (w : World) (hG : WordsIs w) :
 Calls prog 135 #[.string s] w fun e w' => e = .returned (.int .u8 ((stepOfP s.data.toList : Nat) : Int)) ∧ Below w.heap.size w w' := by
 obtain ⟨R, hR⟩ : ∃ R, stepOfP s.data.toList = R := ⟨_, rfl⟩
 have HR : Hid (lookP (wordsP.drop 0) s.data.toList = R) := hR
 rw [hR]
 have HW : Hid (w.rangeAt 2 0 wordC) := hG.1
 obtain ⟨wc, hwc⟩ : ∃ wc, wordC = wc := ⟨_, rfl⟩
 have HIX : Hid (∀ i : Nat, i < 18 → ∀ w : World, (Instr.index 194 (.agg wc.toArray) (.int .i64 (i : Int))).run prog w = .ok (.agg #[.string ⟨((wordsP[i]?.getD ([], 0)).1).toArray⟩, .int .u8 (((wordsP[i]?.getD ([], 0)).2 : Nat) : Int)]) w) := by rw [← hwc]; exact stepOf_row
 have HSZ : Hid ((prog.info? 194).map (·.size) = some wc.length) := by show _ = _; rw [← hwc]; kernel_rfl
 rw [hwc] at HW
 clear hG hR hwc
 go_enter func135, ntmps135
 go_wp2_with (refine wpList_load_mid rfl 194 _ rfl 2 0 rfl wc _ HW.out underlying194 rfl HSZ.out ?_)
 clear HW
 go_loopg [6] 18 (fun gf s6 wx => ∃ i : Nat, s6 = .int .i64 i ∧ i ≤ 18 ∧ 18 ≤ i + gf ∧ Hid (Below w.heap.size w wx) ∧ Hid (lookP (wordsP.drop i) s.data.toList = R))
 case atStart => exact ⟨0, rfl, by omega, by omega, Below.refl _ _, HR⟩
 case round =>
  clear HR
  obtain ⟨i, rfl, hi1, hgf, HB, HL⟩ := hrel
  by_cases hi : i < 18
  · obtain ⟨g', rfl⟩ : ∃ g', gk = g' + 1 := ⟨gk - 1, by omega⟩
    have hil : i < wordsP.length := hi
    have hdr : wordsP.drop i = wordsP[i] :: wordsP.drop (i + 1) := List.drop_eq_getElem_cons hil
    have hix := HIX.out i hi
    have hge : wordsP[i]?.getD ([], 0) = wordsP[i] := by rw [List.getElem?_eq_getElem hil]; rfl
    rw [hge] at hix
    have hl := HL.out
    rw [hdr] at hl
    obtain ⟨x, hx⟩ : ∃ x, wordsP[i] = x := ⟨_, rfl⟩
    rw [hx] at hix hl
    obtain ⟨a, k⟩ := x
    obtain ⟨A, hA⟩ : ∃ A : ByteArray, (⟨a.toArray⟩ : ByteArray) = A := ⟨_, rfl⟩
    have hAl : A.data.toList = a := by rw [← hA]
    simp only [hA] at hix
    have z0 : (0 : Int) ≤ (i : Int) := by omega
    have z1 : (i : Int) < 18 := by omega
    have HB2 : Hid (Below w.heap.size w (wr.alloc (.cells #[.string A, .int .u8 (k : Int)] 193))) := HB.out.alloc HB.out.size _
    by_cases he : a = s.data.toList
    · have ht : (A.toList == s.toList) = true := by rw [Lib.toList_data, Lib.toList_data, hAl, he]; simp
      have HE : Hid (R = k) := by have := hl; rw [lookP, if_pos he] at this; exact this.symm
      clear HL hl hdr hx he hge hA hAl
      go_wp2_with fail
      go_ret
      exact ⟨by rw [HE.out]; rfl, HB2.out⟩
    · have ht : (A.toList == s.toList) = false := by rw [Lib.toList_data, Lib.toList_data, hAl]; exact beq_eq_false_iff_ne.2 he
      have HE : Hid (lookP (wordsP.drop (i + 1)) s.data.toList = R) := by have := hl; rw [lookP, if_neg he] at this; exact this
      clear HL hl hdr hx he hge hA hAl
      go_wp2_with fail
      go_roundg g'
      case measure => omega
      case rel => exact ⟨i + 1, by go_num, by omega, by omega, HB2, HE⟩
  · have hie : i = 18 := by omega
    have z1 : ¬ (i : Int) < 18 := by omega
    have HE : Hid (R = 0) := by have := HL.out; rw [hie] at this; exact this.symm
    clear HL hie
    go_wp2_with fail
    go_ret
    exact ⟨by rw [HE.out]; rfl, HB.out⟩
theorem aggOf_row : ∀ i : Nat, i < 4 → ∀ w : World, (Instr.index 257 (.agg aggC.toArray) (.int .i64 (i : Int))).run prog w = .ok (.agg #[.string ⟨((aggsP[i]?.getD ([], 0)).1).toArray⟩, .int .u8 (((aggsP[i]?.getD ([], 0)).2 : Nat) : Int)]) w := by
 intro i hi w
 match i, hi with
 | 0, _ => rfl
 | 1, _ => rfl
 | 2, _ => rfl
 | 3, _ => rfl
 | m + 4, h => exact absurd h (by omega)
theorem aggOf_any (s : ByteArray) (w : World) (hG : WordsIs w) :
 Calls prog 213 #[.string s] w fun e w' => e = .returned (.int .u8 ((aggOfP s.data.toList : Nat) : Int)) ∧ Below w.heap.size w w' := by
 obtain ⟨R, hR⟩ : ∃ R, aggOfP s.data.toList = R := ⟨_, rfl⟩
 have HR : Hid (lookP (aggsP.drop 0) s.data.toList = R) := hR
 rw [hR]
 have HW : Hid (w.rangeAt 5 0 aggC) := hG.2
 obtain ⟨wc, hwc⟩ : ∃ wc, aggC = wc := ⟨_, rfl⟩
 have HIX : Hid (∀ i : Nat, i < 4 → ∀ w : World, (Instr.index 257 (.agg wc.toArray) (.int .i64 (i : Int))).run prog w = .ok (.agg #[.string ⟨((aggsP[i]?.getD ([], 0)).1).toArray⟩, .int .u8 (((aggsP[i]?.getD ([], 0)).2 : Nat) : Int)]) w) := by rw [← hwc]; exact aggOf_row
 have HSZ : Hid ((prog.info? 257).map (·.size) = some wc.length) := by show _ = _; rw [← hwc]; kernel_rfl
 rw [hwc] at HW
 clear hG hR hwc
 go_enter func213, ntmps213
 go_wp2_with (refine wpList_load_mid rfl 257 _ rfl 5 0 rfl wc _ HW.out underlying257 rfl HSZ.out ?_)
 clear HW
 go_loopg [6] 4 (fun gf s6 wx => ∃ i : Nat, s6 = .int .i64 i ∧ i ≤ 4 ∧ 4 ≤ i + gf ∧ Hid (Below w.heap.size w wx) ∧ Hid (lookP (aggsP.drop i) s.data.toList = R))
 case atStart => exact ⟨0, rfl, by omega, by omega, Below.refl _ _, HR⟩
 case round =>
  clear HR
  obtain ⟨i, rfl, hi1, hgf, HB, HL⟩ := hrel
  by_cases hi : i < 4
  · obtain ⟨g', rfl⟩ : ∃ g', gk = g' + 1 := ⟨gk - 1, by omega⟩
    have hil : i < aggsP.length := hi
    have hdr : aggsP.drop i = aggsP[i] :: aggsP.drop (i + 1) := List.drop_eq_getElem_cons hil
    have hix := HIX.out i hi
    have hge : aggsP[i]?.getD ([], 0) = aggsP[i] := by rw [List.getElem?_eq_getElem hil]; rfl
    rw [hge] at hix
    have hl := HL.out
    rw [hdr] at hl
    obtain ⟨x, hx⟩ : ∃ x, aggsP[i] = x := ⟨_, rfl⟩
    rw [hx] at hix hl
    obtain ⟨a, k⟩ := x
    obtain ⟨A, hA⟩ : ∃ A : ByteArray, (⟨a.toArray⟩ : ByteArray) = A := ⟨_, rfl⟩
    have hAl : A.data.toList = a := by rw [← hA]
    simp only [hA] at hix
    have z0 : (0 : Int) ≤ (i : Int) := by omega
    have z1 : (i : Int) < 4 := by omega
    have HB2 : Hid (Below w.heap.size w (wr.alloc (.cells #[.string A, .int .u8 (k : Int)] 256))) := HB.out.alloc HB.out.size _
    by_cases he : a = s.data.toList
    · have ht : (A.toList == s.toList) = true := by rw [Lib.toList_data, Lib.toList_data, hAl, he]; simp
      have HE : Hid (R = k) := by have := hl; rw [lookP, if_pos he] at this; exact this.symm
      clear HL hl hdr hx he hge hA hAl
      go_wp2_with fail
      go_ret
      exact ⟨by rw [HE.out]; rfl, HB2.out⟩
    · have ht : (A.toList == s.toList) = false := by rw [Lib.toList_data, Lib.toList_data, hAl]; exact beq_eq_false_iff_ne.2 he
      have HE : Hid (lookP (aggsP.drop (i + 1)) s.data.toList = R) := by have := hl; rw [lookP, if_neg he] at this; exact this
      clear HL hl hdr hx he hge hA hAl
      go_wp2_with fail
      go_roundg g'
      case measure => omega
      case rel => exact ⟨i + 1, by go_num, by omega, by omega, HB2, HE⟩
  · have hie : i = 4 := by omega
    have z1 : ¬ (i : Int) < 4 := by omega
    have HE : Hid (R = 0) := by have := HL.out; rw [hie] at this; exact this.symm
    clear HL hie
    go_wp2_with fail
    go_ret
    exact ⟨by rw [HE.out]; rfl, HB.out⟩
theorem lookP_le : ∀ (l : List (List UInt8 × Nat)) (t : List UInt8) (m : Nat), (∀ x ∈ l, x.2 ≤ m) → lookP l t ≤ m
 | [], t, m, _ => by unfold lookP; omega
 | x :: l, t, m, h => by
  unfold lookP
  split
  · exact h x (by simp)
  · exact lookP_le l t m (fun y hy => h y (by simp [hy]))
theorem stepOfP_le (t : List UInt8) : stepOfP t ≤ 21 := lookP_le _ _ _ (by decide)
theorem aggOfP_le (t : List UInt8) : aggOfP t ≤ 4 := lookP_le _ _ _ (by decide)
theorem isConst_any (s : ByteArray) (w : World) (hG : WordsIs w) : Calls prog 101 #[.string s] w fun e w' => e = .returned (.bool (isConstP s.data.toList)) ∧ Below w.heap.size w w' := by
 have C := hid (stepOf_any s w hG)
 obtain ⟨k, hk⟩ : ∃ k, stepOfP s.data.toList = k := ⟨_, rfl⟩
 have hk21 : k ≤ 21 := by rw [← hk]; exact stepOfP_le _
 have HC : Hid (isConstP s.data.toList = (decide (1 ≤ k) && decide (k ≤ 3))) := by show _ = _; unfold isConstP; rw [hk]
 rw [hk] at C
 clear hk hG
 go_enter func101, ntmps101
 go_wp2_with fail
 refine C.out.mono ?_
 rintro e w' ⟨rfl, hb⟩
 have HB := hid hb
 clear hb C
 by_cases h1 : k = 1
 · have HE : Hid (isConstP s.data.toList = true) := by show _ = _; rw [HC.out, h1]; rfl
   subst h1
   clear HC
   go_wp2_with fail
   go_ret
   exact ⟨by rw [HE.out]; rfl, HB.out⟩
 · have y1 : ((k : Int) == 1) = false := beq_eq_false_iff_ne.2 (by omega)
   by_cases h2 : k = 2
   · have HE : Hid (isConstP s.data.toList = true) := by show _ = _; rw [HC.out, h2]; rfl
     subst h2
     clear HC
     go_wp2_with fail
     go_ret
     exact ⟨by rw [HE.out]; rfl, HB.out⟩
   · have y2 : ((k : Int) == 2) = false := beq_eq_false_iff_ne.2 (by omega)
     by_cases h3 : k = 3
     · have HE : Hid (isConstP s.data.toList = true) := by show _ = _; rw [HC.out, h3]; rfl
       subst h3
       clear HC
       go_wp2_with fail
       go_ret
       exact ⟨by rw [HE.out]; rfl, HB.out⟩
     · have y3 : ((k : Int) == 3) = false := beq_eq_false_iff_ne.2 (by omega)
       have HE : Hid (isConstP s.data.toList = false) := by
        show _ = _
        rw [HC.out]
        simp only [Bool.and_eq_false_iff, decide_eq_false_iff_not]
        omega
       clear HC h1 h2 h3
       go_wp2_with fail
       go_ret
       exact ⟨by rw [HE.out]; rfl, HB.out⟩
theorem isDig_any (r : Int) (w : World) : Calls prog 103 #[.int .i32 r] w fun e w' => e = .returned (.bool (isDigP r)) ∧ w' = w := by
 by_cases h1 : 48 ≤ r
 · have d1 : decide (48 ≤ r) = true := decide_eq_true h1
   by_cases h2 : r ≤ 57
   · have d2 : decide (r ≤ 57) = true := decide_eq_true h2
     have HE : Hid (isDigP r = true) := by show _ = _; unfold isDigP; rw [d1, d2]; rfl
     go_enter func103, ntmps103
     go_wp2_with fail
     go_ret
     exact ⟨by rw [HE.out]; rfl, rfl⟩
   · have d2 : decide (r ≤ 57) = false := decide_eq_false h2
     have HE : Hid (isDigP r = false) := by show _ = _; unfold isDigP; rw [d1, d2]; rfl
     go_enter func103, ntmps103
     go_wp2_with fail
     go_ret
     exact ⟨by rw [HE.out]; rfl, rfl⟩
 · have d1 : decide (48 ≤ r) = false := decide_eq_false h1
   have HE : Hid (isDigP r = false) := by show _ = _; unfold isDigP; rw [d1]; rfl
   go_enter func103, ntmps103
   go_wp2_with fail
   go_ret
   exact ⟨by rw [HE.out]; rfl, rfl⟩
theorem isLet_any (r : Int) (w : World) : Calls prog 102 #[.int .i32 r] w fun e w' => e = .returned (.bool (isLetP r)) ∧ w' = w := by
 by_cases ha : 65 ≤ r
 · have da : decide (65 ≤ r) = true := decide_eq_true ha
   by_cases hb : r ≤ 90
   · have db : decide (r ≤ 90) = true := decide_eq_true hb
     have HE : Hid (isLetP r = true) := by show _ = _; unfold isLetP; simp only [da, db]; rfl
     go_enter func102, ntmps102
     go_wp2_with fail
     go_ret
     exact ⟨by first | (rw [HE.out]; rfl) | rfl, rfl⟩
   · have db : decide (r ≤ 90) = false := decide_eq_false hb
     by_cases hc : 97 ≤ r
     · have dc : decide (97 ≤ r) = true := decide_eq_true hc
       by_cases hd : r ≤ 122
       · have dd : decide (r ≤ 122) = true := decide_eq_true hd
         have HE : Hid (isLetP r = true) := by show _ = _; unfold isLetP; simp only [da, db, dc, dd]; rfl
         go_enter func102, ntmps102
         go_wp2_with fail
         go_ret
         exact ⟨by first | (rw [HE.out]; rfl) | rfl, rfl⟩
       · have dd : decide (r ≤ 122) = false := decide_eq_false hd
         by_cases he : r = 95
         · have de : decide (r = 95) = true := decide_eq_true he
           have be : (r == 95) = true := by simpa using he
           have HE : Hid (isLetP r = true) := by show _ = _; unfold isLetP; simp only [da, db, dc, dd, de]; rfl
           go_enter func102, ntmps102
           go_wp2_with fail
           go_ret
           exact ⟨by first | (rw [HE.out]; rfl) | rfl, rfl⟩
         · have de : decide (r = 95) = false := decide_eq_false he
           have be : (r == 95) = false := by simpa using he
           by_cases hf : 127 < r
           · have df : decide (127 < r) = true := decide_eq_true hf
             have HE : Hid (isLetP r = true) := by show _ = _; unfold isLetP; simp only [da, db, dc, dd, de, df]; rfl
             go_enter func102, ntmps102
             go_wp2_with fail
             go_ret
             exact ⟨by first | (rw [HE.out]; rfl) | rfl, rfl⟩
           · have df : decide (127 < r) = false := decide_eq_false hf
             have HE : Hid (isLetP r = false) := by show _ = _; unfold isLetP; simp only [da, db, dc, dd, de, df]; rfl
             go_enter func102, ntmps102
             go_wp2_with fail
             go_ret
             exact ⟨by first | (rw [HE.out]; rfl) | rfl, rfl⟩
     · have dc : decide (97 ≤ r) = false := decide_eq_false hc
       by_cases he : r = 95
       · have de : decide (r = 95) = true := decide_eq_true he
         have be : (r == 95) = true := by simpa using he
         have HE : Hid (isLetP r = true) := by show _ = _; unfold isLetP; simp only [da, db, dc, de]; rfl
         go_enter func102, ntmps102
         go_wp2_with fail
         go_ret
         exact ⟨by first | (rw [HE.out]; rfl) | rfl, rfl⟩
       · have de : decide (r = 95) = false := decide_eq_false he
         have be : (r == 95) = false := by simpa using he
         by_cases hf : 127 < r
         · have df : decide (127 < r) = true := decide_eq_true hf
           have HE : Hid (isLetP r = true) := by show _ = _; unfold isLetP; simp only [da, db, dc, de, df]; rfl
           go_enter func102, ntmps102
           go_wp2_with fail
           go_ret
           exact ⟨by first | (rw [HE.out]; rfl) | rfl, rfl⟩
         · have df : decide (127 < r) = false := decide_eq_false hf
           have HE : Hid (isLetP r = false) := by show _ = _; unfold isLetP; simp only [da, db, dc, de, df]; rfl
           go_enter func102, ntmps102
           go_wp2_with fail
           go_ret
           exact ⟨by first | (rw [HE.out]; rfl) | rfl, rfl⟩
 · have da : decide (65 ≤ r) = false := decide_eq_false ha
   by_cases hc : 97 ≤ r
   · have dc : decide (97 ≤ r) = true := decide_eq_true hc
     by_cases hd : r ≤ 122
     · have dd : decide (r ≤ 122) = true := decide_eq_true hd
       have HE : Hid (isLetP r = true) := by show _ = _; unfold isLetP; simp only [da, dc, dd]; rfl
       go_enter func102, ntmps102
       go_wp2_with fail
       go_ret
       exact ⟨by first | (rw [HE.out]; rfl) | rfl, rfl⟩
     · have dd : decide (r ≤ 122) = false := decide_eq_false hd
       by_cases he : r = 95
       · have de : decide (r = 95) = true := decide_eq_true he
         have be : (r == 95) = true := by simpa using he
         have HE : Hid (isLetP r = true) := by show _ = _; unfold isLetP; simp only [da, dc, dd, de]; rfl
         go_enter func102, ntmps102
         go_wp2_with fail
         go_ret
         exact ⟨by first | (rw [HE.out]; rfl) | rfl, rfl⟩
       · have de : decide (r = 95) = false := decide_eq_false he
         have be : (r == 95) = false := by simpa using he
         by_cases hf : 127 < r
         · have df : decide (127 < r) = true := decide_eq_true hf
           have HE : Hid (isLetP r = true) := by show _ = _; unfold isLetP; simp only [da, dc, dd, de, df]; rfl
           go_enter func102, ntmps102
           go_wp2_with fail
           go_ret
           exact ⟨by first | (rw [HE.out]; rfl) | rfl, rfl⟩
         · have df : decide (127 < r) = false := decide_eq_false hf
           have HE : Hid (isLetP r = false) := by show _ = _; unfold isLetP; simp only [da, dc, dd, de, df]; rfl
           go_enter func102, ntmps102
           go_wp2_with fail
           go_ret
           exact ⟨by first | (rw [HE.out]; rfl) | rfl, rfl⟩
   · have dc : decide (97 ≤ r) = false := decide_eq_false hc
     by_cases he : r = 95
     · have de : decide (r = 95) = true := decide_eq_true he
       have be : (r == 95) = true := by simpa using he
       have HE : Hid (isLetP r = true) := by show _ = _; unfold isLetP; simp only [da, dc, de]; rfl
       go_enter func102, ntmps102
       go_wp2_with fail
       go_ret
       exact ⟨by first | (rw [HE.out]; rfl) | rfl, rfl⟩
     · have de : decide (r = 95) = false := decide_eq_false he
       have be : (r == 95) = false := by simpa using he
       by_cases hf : 127 < r
       · have df : decide (127 < r) = true := decide_eq_true hf
         have HE : Hid (isLetP r = true) := by show _ = _; unfold isLetP; simp only [da, dc, de, df]; rfl
         go_enter func102, ntmps102
         go_wp2_with fail
         go_ret
         exact ⟨by first | (rw [HE.out]; rfl) | rfl, rfl⟩
       · have df : decide (127 < r) = false := decide_eq_false hf
         have HE : Hid (isLetP r = false) := by show _ = _; unfold isLetP; simp only [da, dc, de, df]; rfl
         go_enter func102, ntmps102
         go_wp2_with fail
         go_ret
         exact ⟨by first | (rw [HE.out]; rfl) | rfl, rfl⟩
end Go.Proofs.YtfifphfihdhlaaaGreatDoor
