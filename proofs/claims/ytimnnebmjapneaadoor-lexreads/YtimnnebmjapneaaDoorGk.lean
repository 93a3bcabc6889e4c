/- What the reference's next reads. -/
import Derived.Test.YtimnnebmjapneaaDoorGj
namespace Go.Proofs.YtimnnebmjapneaaDoor
open Go.RowKit Go.Lib
set_option linter.unusedVariables false
set_option maxRecDepth 100000 in
set_option maxHeartbeats 4000000 in
theorem nextR_any (b o c : Nat) (ls : List Let) (w : World) (hg : GA w (some ⟨b, o, none⟩) ls) (hl : ls.length ≤ 2048) (hc1 : ls.length ≤ c) (hc2 : c ≤ maxLen) (ho : ∀ x ∈ ls, okZ x.1) (hbad : BadIs ls) (h0 : 0 < ls.length) (hbl : isBl ls[0].1 = false) (h59 : ls[0].1 ≠ 59) :
    Calls Tryd.prog 15 #[.slice (some ⟨b, o, none⟩) ls.length c] w fun e w' => e = .returned (tokAns ls 0).v ∧ Below w.heap.size w w' := by
  have W0B : Hid (Below w.heap.size w (w.alloc (tokO 0 ⟨#[]⟩ 0 0))) := (Below.refl _ w).alloc (Nat.le_refl _) _
  have hz2 : (0 : Int) < (ls.length : Int) := by omega
  have x0 : (w.alloc (tokO 0 ⟨#[]⟩ 0 0)).cell? ⟨b, o, none⟩ = some (.int .i32 ls[0].1) := by
    obtain ⟨b', o', e, _, hc⟩ := (hg.below W0B.out) h0
    simp only [Option.some.injEq, Addr.mk.injEq, and_true] at e
    obtain ⟨rfl, rfl⟩ := e
    have := (hc 0 h0).1
    simpa using this
  unfold tokO at x0
  have hA : tokAns ls 0 = if ls[0].1 = 40 then ⟨⟨1, [], 0, 0⟩, (0 : Int) + 1, 0⟩ else if ls[0].1 = 41 then ⟨⟨2, [], 0, 0⟩, (0 : Int) + 1, 0⟩ else if ls[0].1 = 34 then textAns ls 0 else wordAns ls 0 := by
    unfold tokAns; rw [drop_at ls 0 h0]; rfl
  have CT : Hid (ls[0].1 = 34 → Calls Tryd.prog 24 #[.slice (some ⟨b, o, none⟩) ls.length c] (w.alloc (tokO 0 ⟨#[]⟩ 0 0)) fun e w' => e = .returned (textAns ls 0).v ∧ Below (w.alloc (tokO 0 ⟨#[]⟩ 0 0)).heap.size (w.alloc (tokO 0 ⟨#[]⟩ 0 0)) w') := fun h => quotedR_any b o c ls _ (hg.below W0B.out) hl hc1 hc2 ho hbad ⟨ls[0], ls.drop 1, by rw [← List.drop_eq_getElem_cons h0]; rfl, h⟩
  have CW : Hid (1 ≤ wlen ls → Calls Tryd.prog 25 #[.slice (some ⟨b, o, none⟩) ls.length c] (w.alloc (tokO 0 ⟨#[]⟩ 0 0)) fun e w' => e = .returned (wordAns ls 0).v ∧ Below (w.alloc (tokO 0 ⟨#[]⟩ 0 0)).heap.size (w.alloc (tokO 0 ⟨#[]⟩ 0 0)) w') := fun h => wordR_any b o c ls _ (hg.below W0B.out) hl hc1 hc2 ho h
  have h1 : ls[0].1 ≠ 40 → ls[0].1 ≠ 41 → ls[0].1 ≠ 34 → 1 ≤ wlen ls := fun h40 h41 h34 => by
    have e : ls.drop 0 = ls := rfl
    rw [← e, drop_at ls 0 h0]
    have : isEnd ls[0].1 = false := by simp [isEnd, hbl, h59, h40, h41, h34]
    simp [wlen, this]
  have H1 : Hid (ls[0].1 ≠ 40 → ls[0].1 ≠ 41 → ls[0].1 ≠ 34 → 1 ≤ wlen ls) := h1
  clear hg ho hbad hbl h59 h1
  by_cases h40 : ls[0].1 = 40
  · rw [h40] at x0
    rw [hA, if_pos h40]
    clear hA CT CW H1 h40
    go_enter Tryd.func15, Tryd.ntmps15
    go_wp2_with fail
    exact bodyPost_ret (v := .tuple #[.agg #[.int .u8 1, .string ⟨#[]⟩, .int .i64 0, .int .i64 0], .int .i64 1, .int .i64 0]) (by simp [results, Tryd.results15, go_sem]) rfl ⟨rfl, by (repeat (first | exact Below.refl _ _ | refine Below.alloc ?_ (by simp) _ | refine Below.setCell ?_ (by simp) _))⟩
  by_cases h41 : ls[0].1 = 41
  · rw [h41] at x0
    rw [hA, if_neg h40, if_pos h41]
    clear hA CT CW H1 h40 h41
    go_enter Tryd.func15, Tryd.ntmps15
    go_wp2_with fail
    exact bodyPost_ret (v := .tuple #[.agg #[.int .u8 2, .string ⟨#[]⟩, .int .i64 0, .int .i64 0], .int .i64 1, .int .i64 0]) (by simp [results, Tryd.results15, go_sem]) rfl ⟨rfl, by (repeat (first | exact Below.refl _ _ | refine Below.alloc ?_ (by simp) _ | refine Below.setCell ?_ (by simp) _))⟩
  have e40 : (ls[0].1 == 40) = false := beq_eq_false_iff_ne.2 h40
  have e41 : (ls[0].1 == 41) = false := beq_eq_false_iff_ne.2 h41
  by_cases h34 : ls[0].1 = 34
  · rw [hA, if_neg h40, if_neg h41, if_pos h34]
    have CT' : Hid (Calls Tryd.prog 24 #[.slice (some ⟨b, o, none⟩) ls.length c] (w.alloc (tokO 0 ⟨#[]⟩ 0 0)) fun e w' => e = .returned (textAns ls 0).v ∧ Below (w.alloc (tokO 0 ⟨#[]⟩ 0 0)).heap.size (w.alloc (tokO 0 ⟨#[]⟩ 0 0)) w') := CT.out h34
    rw [h34] at x0
    obtain ⟨k, t, n, a, fin, err, hv⟩ := (textAns ls 0).form
    rw [hv] at CT' ⊢
    clear hA CT CW H1 hv h40 h41 e40 e41 h34
    go_enter Tryd.func15, Tryd.ntmps15
    go_wp2_with fail
    refine CT'.out.mono ?_
    rintro e w2 ⟨rfl, hb2⟩
    have hblx : Hid (w2.heap[w.heap.size]? = some (tokO 0 ⟨#[]⟩ 0 0)) := (hb2.block _ (by simp)).trans (own_new w _)
    obtain ⟨a0, a1, a2, a3, f0, f1, f2, f3⟩ := tok_cells hblx.out
    have HB2 : Hid (Below w.heap.size w w2) := W0B.out.trans (hb2.mono W0B.out.size)
    clear hb2 CT'
    go_wp2_with fail
    obtain ⟨d0', d1', d2', d3', _⟩ := tok_cells (setTok_at hblx.out k t n a)
    have HBt : Hid (Below w.heap.size w (setTok w2 w.heap.size k t n a)) := setTok_below HB2.out (Nat.le_refl _) _ _ _ _
    generalize hW : setTok w2 w.heap.size k t n a = W4 at d0' d1' d2' d3' HBt
    unfold setTok at hW
    rw [hW]
    exact bodyPost_ret (v := .tuple #[.agg #[.int .u8 k, .string t, .int .i64 n, .int .i64 a], .int .i64 fin, .int .i64 err]) (by simp [results, Tryd.results15, go_sem, d0', d1', d2', d3']) rfl ⟨rfl, HBt.out⟩
  · have e34 : (ls[0].1 == 34) = false := beq_eq_false_iff_ne.2 h34
    have CW' : Hid (Calls Tryd.prog 25 #[.slice (some ⟨b, o, none⟩) ls.length c] (w.alloc (tokO 0 ⟨#[]⟩ 0 0)) fun e w' => e = .returned (wordAns ls 0).v ∧ Below (w.alloc (tokO 0 ⟨#[]⟩ 0 0)).heap.size (w.alloc (tokO 0 ⟨#[]⟩ 0 0)) w') := CW.out (H1.out h40 h41 h34)
    rw [hA, if_neg h40, if_neg h41, if_neg h34]
    obtain ⟨k, t, n, a, fin, err, hv⟩ := (wordAns ls 0).form
    rw [hv] at CW' ⊢
    clear hA CW CT H1 hv h40 h41 h34
    generalize ls[0].1 = c0 at x0 e40 e41 e34
    go_enter Tryd.func15, Tryd.ntmps15
    go_wp2_with fail
    refine CW'.out.mono ?_
    rintro e w2 ⟨rfl, hb2⟩
    have hblx : Hid (w2.heap[w.heap.size]? = some (tokO 0 ⟨#[]⟩ 0 0)) := (hb2.block _ (by simp)).trans (own_new w _)
    obtain ⟨a0, a1, a2, a3, f0, f1, f2, f3⟩ := tok_cells hblx.out
    have HB2 : Hid (Below w.heap.size w w2) := W0B.out.trans (hb2.mono W0B.out.size)
    clear hb2 CW'
    go_wp2_with fail
    obtain ⟨d0', d1', d2', d3', _⟩ := tok_cells (setTok_at hblx.out k t n a)
    have HBt : Hid (Below w.heap.size w (setTok w2 w.heap.size k t n a)) := setTok_below HB2.out (Nat.le_refl _) _ _ _ _
    generalize hW : setTok w2 w.heap.size k t n a = W4 at d0' d1' d2' d3' HBt
    unfold setTok at hW
    rw [hW]
    exact bodyPost_ret (v := .tuple #[.agg #[.int .u8 k, .string t, .int .i64 n, .int .i64 a], .int .i64 fin, .int .i64 err]) (by simp [results, Tryd.results15, go_sem, d0', d1', d2', d3']) rfl ⟨rfl, HBt.out⟩
end Go.Proofs.YtimnnebmjapneaaDoor
