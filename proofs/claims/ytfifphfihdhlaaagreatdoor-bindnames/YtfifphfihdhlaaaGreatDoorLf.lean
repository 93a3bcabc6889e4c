/- What wordToken answers. -/
import Derived.Test.YtfifphfihdhlaaaGreatDoorLdLe
set_option maxRecDepth 100000
set_option maxHeartbeats 32000000
namespace Go.Proofs.YtfifphfihdhlaaaGreatDoor
open Tryz
open Go.RowKit Go.Lib Go.Sort
set_option linter.unusedVariables false
def wTok (l : List UInt8) : Tok := if begNum l then numTok l else if 64 < l.length then noTok else ⟨3, l, 0, 0⟩
def wErr (l : List UInt8) : Int := if begNum l then numErr l else if 64 < l.length then 13 else 0
theorem numTok_form (l : List UInt8) : ∃ k n, (numTok l).v = .agg #[.int .u8 k, .string ⟨#[]⟩, .int .i64 n, .int .i64 0] := by
 unfold numTok
 cases numOf l with
 | none => exact ⟨_, _, rfl⟩
 | some v => exact ⟨_, _, rfl⟩
theorem wordToken_any (l : List UInt8) (w : World) (hl : l.length ≤ 100000) (hG : Glob w) :
 Calls prog 166 #[.string ⟨l.toArray⟩] w fun e w' => e = .returned (.tuple #[(wTok l).v, .int .i64 (wErr l)]) ∧ Below w.heap.size w w' := by
 have C1 : Hid (∀ W, Calls prog 181 #[.string ⟨l.toArray⟩] W fun e w' => e = .returned (.bool (begNum l)) ∧ w' = W) := fun W => by
  have := beginsNumber_any ⟨l.toArray⟩ W
  simpa using this
 have C2 : Hid (∀ W, Below w.heap.size w W → Calls prog 182 #[.string ⟨l.toArray⟩] W fun e w' => e = .returned (.tuple #[(numTok l).v, .int .i64 (numErr l)]) ∧ Below W.heap.size W w') := fun W h => numberToken_any l W hl (hG.below h)
 have hsz : (⟨l.toArray⟩ : ByteArray).size = l.length := by show l.toArray.size = _; simp
 clear hG
 cases hB : begNum l with
 | true =>
  obtain ⟨k, n, hv⟩ := numTok_form l
  rw [hB] at C1
  rw [hv] at C2
  have e1 : (wTok l).v = .agg #[.int .u8 k, .string ⟨#[]⟩, .int .i64 n, .int .i64 0] := by simp [wTok, hB, hv]
  have e2 : wErr l = numErr l := by simp [wErr, hB]
  rw [e1, e2]
  clear e1 e2 hv hB
  go_enter func166, ntmps166
  go_wp2_with fail
  refine (C1.out _).mono ?_
  rintro e w1 ⟨rfl, rfl⟩
  go_wp2_with fail
  refine (C2.out _ ((Below.refl _ w).alloc (Nat.le_refl _) _)).mono ?_
  rintro e w2 ⟨rfl, hw2⟩
  have hbl : Hid (w2.heap[w.heap.size]? = some (tokO 0 ⟨#[]⟩ 0 0)) := (hw2.block _ (by simp)).trans (own_new w _)
  obtain ⟨c0, c1, c2, c3, f0, f1, f2, f3⟩ := tok_cells hbl.out
  have HB : Hid (Below w.heap.size w w2) := ((Below.refl _ w).alloc (Nat.le_refl _) _).trans (hw2.mono (by simp))
  clear hw2 C1 C2
  go_wp2_with fail
  obtain ⟨d0, d1, d2, d3, _⟩ := tok_cells (setTok_at hbl.out k ⟨#[]⟩ n 0)
  have HBt : Hid (Below w.heap.size w (setTok w2 w.heap.size k ⟨#[]⟩ n 0)) := setTok_below HB.out (Nat.le_refl _) _ _ _ _
  generalize hW : setTok w2 w.heap.size k ⟨#[]⟩ n 0 = W4 at d0 d1 d2 d3 HBt
  unfold setTok at hW
  rw [hW]
  exact bodyPost_ret (v := .tuple #[.agg #[.int .u8 k, .string ⟨#[]⟩, .int .i64 n, .int .i64 0], .int .i64 (numErr l)]) (by simp [results, results166, go_sem, d0, d1, d2, d3]) rfl ⟨rfl, HBt.out⟩
 | false =>
  rw [hB] at C1
  clear C2
  by_cases h64 : 64 < l.length
  · have e1 : (wTok l).v = .agg #[.int .u8 0, .string ⟨#[]⟩, .int .i64 0, .int .i64 0] := by simp [wTok, hB, h64]; rfl
    have e2 : wErr l = 13 := by simp [wErr, hB, h64]
    have t1 : (64 : Int) < ((⟨l.toArray⟩ : ByteArray).size : Int) := by omega
    rw [e1, e2]
    clear e1 e2 hB
    go_enter func166, ntmps166
    go_wp2_with fail
    refine (C1.out _).mono ?_
    rintro e w1 ⟨rfl, rfl⟩
    go_wp2_with fail
    exact bodyPost_ret (v := .tuple #[.agg #[.int .u8 0, .string ⟨#[]⟩, .int .i64 0, .int .i64 0], .int .i64 13]) (by simp [results, results166, go_sem]) rfl ⟨rfl, by (repeat (first | exact Below.refl _ _ | refine Below.alloc ?_ (by simp) _ | refine Below.setCell ?_ (by simp) _))⟩
  · have e1 : (wTok l).v = .agg #[.int .u8 3, .string ⟨l.toArray⟩, .int .i64 0, .int .i64 0] := by simp [wTok, hB, h64]; rfl
    have e2 : wErr l = 0 := by simp [wErr, hB, h64]
    have t1 : ¬ (64 : Int) < ((⟨l.toArray⟩ : ByteArray).size : Int) := by omega
    rw [e1, e2]
    clear e1 e2 hB
    go_enter func166, ntmps166
    go_wp2_with fail
    refine (C1.out _).mono ?_
    rintro e w1 ⟨rfl, rfl⟩
    go_wp2_with fail
    exact bodyPost_ret (v := .tuple #[.agg #[.int .u8 3, .string ⟨l.toArray⟩, .int .i64 0, .int .i64 0], .int .i64 0]) (by simp [results, results166, go_sem]) rfl ⟨rfl, by (repeat (first | exact Below.refl _ _ | refine Below.alloc ?_ (by simp) _ | refine Below.setCell ?_ (by simp) _))⟩
end Go.Proofs.YtfifphfihdhlaaaGreatDoor
