/- What readToken answers. -/
import Derived.Test.YtnmmojhbcnlboaaGreatDoorLh
namespace Go.Proofs.YtnmmojhbcnlboaaGreatDoor
open Go.RowKit Go.Lib Go.Sort
set_option linter.unusedVariables false

def tokAns (ls : List Let) (at0 : Nat) : Ans := match ls.drop at0 with
  | [] => ⟨noTok, 0, 0⟩
  | x :: _ => if x.1 = 40 then ⟨⟨1, [], 0, at0⟩, (at0 : Int) + 1, 0⟩ else if x.1 = 41 then ⟨⟨2, [], 0, at0⟩, (at0 : Int) + 1, 0⟩ else if x.1 = 34 then textAns ls at0 else wordAns ls at0
theorem Ans.form (x : Ans) : ∃ k t n a fin err, x.v = .tuple #[.agg #[.int .u8 k, .string t, .int .i64 n, .int .i64 a], .int .i64 fin, .int .i64 err] := ⟨_, _, _, _, _, _, rfl⟩
set_option maxRecDepth 100000 in
set_option maxHeartbeats 4000000 in
theorem readToken_any (b c at0 : Nat) (ls : List Let) (w : World) (hl : LetsAt w b ls) (hb : b < w.heap.size) (hn : ls.length ≤ 2048) (hr : ∀ x ∈ ls, -2147483648 ≤ x.1 ∧ x.1 ≤ 2147483647) (hc1 : ls.length ≤ c) (hc2 : c ≤ 9223372036854775807) (hat : at0 < ls.length) (hbl : isBl ls[at0].1 = false) (h59 : ls[at0].1 ≠ 59) (hG : Glob w) :
    Calls Tryz.prog 55 #[.slice (some ⟨b, 0, none⟩) ls.length c, .int .i64 at0] w fun e w' => e = .returned (tokAns ls at0).v ∧ Below w.heap.size w w' := by
  have HL : Hid (∀ W, Below w.heap.size w W → LetsAt W b ls) := fun W h j hj => by
    obtain ⟨h1, h2⟩ := hl j hj
    rw [← h.cell (p := ⟨b, _, none⟩) hb] at h1 h2
    exact ⟨h1, h2⟩
  have W0B : Hid (Below w.heap.size w (w.alloc (tokO 0 ⟨#[]⟩ 0 0))) := (Below.refl _ w).alloc (Nat.le_refl _) _
  have hz0 : (0 : Int) ≤ (at0 : Int) := by omega
  have hz2 : (at0 : Int) < (ls.length : Int) := by omega
  obtain ⟨x0, x1⟩ := HL.out _ W0B.out at0 hat
  unfold tokO at x0 x1
  have hA : tokAns ls at0 = if ls[at0].1 = 40 then ⟨⟨1, [], 0, at0⟩, (at0 : Int) + 1, 0⟩ else if ls[at0].1 = 41 then ⟨⟨2, [], 0, at0⟩, (at0 : Int) + 1, 0⟩ else if ls[at0].1 = 34 then textAns ls at0 else wordAns ls at0 := by
    unfold tokAns; rw [drop_at ls at0 hat]
  have CT : Hid (Calls Tryz.prog 66 #[.slice (some ⟨b, 0, none⟩) ls.length c, .int .i64 at0] (w.alloc (tokO 0 ⟨#[]⟩ 0 0)) fun e w' => e = .returned (textAns ls at0).v ∧ Below (w.alloc (tokO 0 ⟨#[]⟩ 0 0)).heap.size (w.alloc (tokO 0 ⟨#[]⟩ 0 0)) w') := readText_any b c at0 ls _ (HL.out _ W0B.out) (by simp; omega) hn hr hat
  have CW : Hid (1 ≤ wlen (ls.drop at0) → Calls Tryz.prog 67 #[.slice (some ⟨b, 0, none⟩) ls.length c, .int .i64 at0] (w.alloc (tokO 0 ⟨#[]⟩ 0 0)) fun e w' => e = .returned (wordAns ls at0).v ∧ Below (w.alloc (tokO 0 ⟨#[]⟩ 0 0)).heap.size (w.alloc (tokO 0 ⟨#[]⟩ 0 0)) w') := fun h => readWord_any b c at0 ls _ (HL.out _ W0B.out) (by simp; omega) hn hr hc1 hc2 h (hG.below W0B.out)
  clear hl hr HL
  by_cases h40 : ls[at0].1 = 40
  · rw [h40] at x0
    rw [hA, if_pos h40]
    clear hA CT CW hbl h59
    go_enter Tryz.func55, Tryz.ntmps55
    go_wp2_with fail
    exact bodyPost_ret (v := .tuple #[.agg #[.int .u8 1, .string ⟨#[]⟩, .int .i64 0, .int .i64 at0], .int .i64 ((at0 : Int) + 1), .int .i64 0]) (by simp [results, Tryz.results55, go_sem]) rfl ⟨rfl, by (repeat (first | exact Below.refl _ _ | refine Below.alloc ?_ (by simp) _ | refine Below.setCell ?_ (by simp) _))⟩
  by_cases h41 : ls[at0].1 = 41
  · rw [h41] at x0
    rw [hA, if_neg h40, if_pos h41]
    clear hA CT CW hbl h59
    go_enter Tryz.func55, Tryz.ntmps55
    go_wp2_with fail
    exact bodyPost_ret (v := .tuple #[.agg #[.int .u8 2, .string ⟨#[]⟩, .int .i64 0, .int .i64 at0], .int .i64 ((at0 : Int) + 1), .int .i64 0]) (by simp [results, Tryz.results55, go_sem]) rfl ⟨rfl, by (repeat (first | exact Below.refl _ _ | refine Below.alloc ?_ (by simp) _ | refine Below.setCell ?_ (by simp) _))⟩
  have e40 : (ls[at0].1 == 40) = false := beq_eq_false_iff_ne.2 h40
  have e41 : (ls[at0].1 == 41) = false := beq_eq_false_iff_ne.2 h41
  by_cases h34 : ls[at0].1 = 34
  · rw [h34] at x0
    rw [hA, if_neg h40, if_neg h41, if_pos h34]
    obtain ⟨k, t, n, a, fin, err, hv⟩ := (textAns ls at0).form
    rw [hv] at CT ⊢
    clear hA CW hbl h59 hv h40 h41 e40 e41
    go_enter Tryz.func55, Tryz.ntmps55
    go_wp2_with fail
    refine CT.out.mono ?_
    rintro e w2 ⟨rfl, hb2⟩
    have hblx : Hid (w2.heap[w.heap.size]? = some (tokO 0 ⟨#[]⟩ 0 0)) := (hb2.block _ (by simp)).trans (own_new w _)
    obtain ⟨a0, a1, a2, a3, f0, f1, f2, f3⟩ := tok_cells hblx.out
    have HB2 : Hid (Below w.heap.size w w2) := W0B.out.trans (hb2.mono W0B.out.size)
    clear hb2 CT
    go_wp2_with fail
    obtain ⟨d0', d1', d2', d3', _⟩ := tok_cells (setTok_at hblx.out k t n a)
    have HBt : Hid (Below w.heap.size w (setTok w2 w.heap.size k t n a)) := setTok_below HB2.out (Nat.le_refl _) _ _ _ _
    generalize hW : setTok w2 w.heap.size k t n a = W4 at d0' d1' d2' d3' HBt
    unfold setTok at hW
    rw [hW]
    exact bodyPost_ret (v := .tuple #[.agg #[.int .u8 k, .string t, .int .i64 n, .int .i64 a], .int .i64 fin, .int .i64 err]) (by simp [results, Tryz.results55, go_sem, d0', d1', d2', d3']) rfl ⟨rfl, HBt.out⟩
  · have e34 : (ls[at0].1 == 34) = false := beq_eq_false_iff_ne.2 h34
    have h1 : 1 ≤ wlen (ls.drop at0) := by
      rw [drop_at ls at0 hat]
      have : isEnd ls[at0].1 = false := by simp [isEnd, hbl, h59, h40, h41, h34]
      simp [wlen, this]
    have CW' : Hid (Calls Tryz.prog 67 #[.slice (some ⟨b, 0, none⟩) ls.length c, .int .i64 at0] (w.alloc (tokO 0 ⟨#[]⟩ 0 0)) fun e w' => e = .returned (wordAns ls at0).v ∧ Below (w.alloc (tokO 0 ⟨#[]⟩ 0 0)).heap.size (w.alloc (tokO 0 ⟨#[]⟩ 0 0)) w') := CW.out h1
    rw [hA, if_neg h40, if_neg h41, if_neg h34]
    obtain ⟨k, t, n, a, fin, err, hv⟩ := (wordAns ls at0).form
    rw [hv] at CW' ⊢
    clear hA CW CT hbl h59 hv h40 h41 h34 h1
    generalize ls[at0].1 = c0 at x0 e40 e41 e34
    go_enter Tryz.func55, Tryz.ntmps55
    go_wp2_with fail
    refine CW'.out.mono ?_
    rintro e w2 ⟨rfl, hb2⟩
    have hblx : Hid (w2.heap[w.heap.size]? = some (tokO 0 ⟨#[]⟩ 0 0)) := (hb2.block _ (by simp)).trans (own_new w _)
    obtain ⟨a0, a1, a2, a3, f0, f1, f2, f3⟩ := tok_cells hblx.out
    have HB2 : Hid (Below w.heap.size w w2) := W0B.out.trans (hb2.mono W0B.out.size)
    clear hb2 CW'
    go_wp2_with fail
    obtain ⟨d0', d1', d2', d3', _⟩ := tok_cells (setTok_at hblx.out k t n a)
    have HBt : Hid (Below w.heap.size w (setTok w2 w.heap.size k t n a)) := setTok_below HB2.out (Nat.le_refl _) _ _ _ _
    generalize hW : setTok w2 w.heap.size k t n a = W4 at d0' d1' d2' d3' HBt
    unfold setTok at hW
    rw [hW]
    exact bodyPost_ret (v := .tuple #[.agg #[.int .u8 k, .string t, .int .i64 n, .int .i64 a], .int .i64 fin, .int .i64 err]) (by simp [results, Tryz.results55, go_sem, d0', d1', d2', d3']) rfl ⟨rfl, HBt.out⟩
end Go.Proofs.YtnmmojhbcnlboaaGreatDoor
