/- The law ValueJoined returns true. -/
import Derived.Test.YtieomobhdhchlaaDoorLives
import Derived.Test.YtieomobhdhchlaaDoorUtfB
import Derived.Test.YtieomobhdhchlaaDoorChkB
namespace Go.Proofs.YtieomobhdhchlaaDoor
open Go.RowKit Go.Lib Go.Sort
set_option linter.unusedVariables false

theorem chk_text (s : ByteArray) (h : chkV ⟨3, false, 0, s⟩ = 0) : s.size ≤ 256 ∧ Lib.validD s.data.toList = true := by
  unfold chkV at h
  split at h
  · omega
  split at h
  · omega
  split at h
  · rename_i h2 h3
    simp only at h2 h3
    exact ⟨by omega, h3⟩
  · omega

theorem empty_iff (b : ByteArray) : b.toList.isEmpty = decide (b.size = 0) := by
  rw [Lib.toList_data, Lib.size_eq]
  cases b.data.toList <;> simp

set_option maxHeartbeats 1000000 in
set_option maxRecDepth 100000 in
theorem joined_any (a b : ByteArray) (ha : a.size ≤ 9223372036854775807) (hb : b.size ≤ 9223372036854775807) (w : World) (hT : Lib.Utf8Tabs 0 1 w) :
    Calls Tryd.prog 4 #[.string a, .string b] w fun e w' => e = .returned (.bool true) ∧ Below w.heap.size w w' := by
  have lv := lives_any w hT
  have ca : ∀ W, Below w.heap.size w W → Calls Tryd.prog 10 #[.agg #[.int .u8 3, .bool false, .int .i64 0, .string a]] W fun e w' => e = .returned (.int .i64 (chkV ⟨3, false, 0, a⟩)) ∧ Below W.heap.size W w' := fun W h => check_any ⟨3, false, 0, a⟩ W ha (Utf8Tabs_below hT h)
  have cb : ∀ W, Below w.heap.size w W → Calls Tryd.prog 10 #[.agg #[.int .u8 3, .bool false, .int .i64 0, .string b]] W fun e w' => e = .returned (.int .i64 (chkV ⟨3, false, 0, b⟩)) ∧ Below W.heap.size W w' := fun W h => check_any ⟨3, false, 0, b⟩ W hb (Utf8Tabs_below hT h)
  have fa := chk_text a
  have fb := chk_text b
  generalize chkV ⟨3, false, 0, a⟩ = xa at *
  generalize chkV ⟨3, false, 0, b⟩ = xb at *
  have CA : Hid (∀ W, Below w.heap.size w W → Calls Tryd.prog 10 #[.agg #[.int .u8 3, .bool false, .int .i64 0, .string a]] W fun e w' => e = .returned (.int .i64 xa) ∧ Below W.heap.size W w') := ca
  have CB : Hid (∀ W, Below w.heap.size w W → Calls Tryd.prog 10 #[.agg #[.int .u8 3, .bool false, .int .i64 0, .string b]] W fun e w' => e = .returned (.int .i64 xb) ∧ Below W.heap.size W w') := cb
  have HT : Hid (Lib.Utf8Tabs 0 1 w) := hT
  clear ca cb hT
  by_cases za : xa = 0
  · by_cases zb : xb = 0
    · obtain ⟨sa, va⟩ := fa za
      obtain ⟨sb, vb⟩ := fb zb
      subst za zb
      have r1 := fun W => runes_any (a ++ b) W (by rw [ByteArray.size_append]; omega)
      have r2 := fun W => runes_any a W (by omega)
      have r3 := fun W => runes_any b W (by omega)
      rw [count_join a b va] at r1
      have b1 := Lib.runeCount_le a
      have b2 := Lib.runeCount_le b
      generalize Lib.runeCount a = n1 at *
      generalize Lib.runeCount b = n2 at *
      rw [show ((n1 + n2 : Nat) : Int) = (n1 : Int) + (n2 : Int) by omega] at r1
      have R1 : Hid (∀ W, Calls Tryd.prog 13 #[.string (a ++ b)] W fun e w' => e = .returned (.int .i64 ((n1 : Int) + (n2 : Int))) ∧ ∃ pos, w' = W.iter (a ++ b) pos) := r1
      have R2 : Hid (∀ W, Calls Tryd.prog 13 #[.string a] W fun e w' => e = .returned (.int .i64 (n1 : Int)) ∧ ∃ pos, w' = W.iter a pos) := r2
      have R3 : Hid (∀ W, Calls Tryd.prog 13 #[.string b] W fun e w' => e = .returned (.int .i64 (n2 : Int)) ∧ ∃ pos, w' = W.iter b pos) := r3
      have cc : ∀ W, Below w.heap.size w W → Calls Tryd.prog 12 #[.agg #[.int .u8 3, .bool false, .int .i64 0, .string a], .agg #[.int .u8 3, .bool false, .int .i64 0, .string (a ++ b)]] W fun e w' => e = .returned (.int .i64 (cmpV ⟨3, false, 0, a⟩ ⟨3, false, 0, a ++ b⟩)) ∧ Below W.heap.size W w' := fun W h => compare_any ⟨3, false, 0, a⟩ ⟨3, false, 0, a ++ b⟩ W (Utf8Tabs_below HT.out h)
      rw [show cmpV ⟨3, false, 0, a⟩ ⟨3, false, 0, a ++ b⟩ = if b.size = 0 then 0 else -1 by rw [← cmpS_join a b va]; simp [cmpV]] at cc
      have he := empty_iff b
      have hn1 : (n1 : Int) ≤ 256 := by omega
      have hn2 : (n2 : Int) ≤ 256 := by omega
      have teq : (((n1 : Int) + (n2 : Int)) == ((n1 : Int) + (n2 : Int))) = true := by simp
      clear fa fb r1 r2 r3 va vb b1 b2
      by_cases e0 : b.size = 0
      · rw [if_pos e0] at cc
        have he2 : b.toList.isEmpty = true := by rw [he]; simp [e0]
        have CC : Hid (∀ W, Below w.heap.size w W → Calls Tryd.prog 12 #[.agg #[.int .u8 3, .bool false, .int .i64 0, .string a], .agg #[.int .u8 3, .bool false, .int .i64 0, .string (a ++ b)]] W fun e w' => e = .returned (.int .i64 0) ∧ Below W.heap.size W w') := cc
        clear cc e0 he
        go_enter Tryd.func4, Tryd.ntmps4
        go_wp2_with fail
        refine lv.mono ?_
        rintro e w1 ⟨rfl, h1⟩
        go_wp2_with fail
        refine (text_any _ _).mono ?_
        rintro e w2 ⟨rfl, c1, rfl⟩
        have h2 := h1.alloc h1.size (.cells c1 30)
        go_wp2_with fail
        refine (CA.out _ h2).mono ?_
        rintro e w3 ⟨rfl, h3⟩
        have h3' := h2.trans (h3.mono h2.size)
        clear h3 h2
        go_wp2_with fail
        refine (text_any _ _).mono ?_
        rintro e w2 ⟨rfl, c2, rfl⟩
        have h4 := h3'.alloc h3'.size (.cells c2 30)
        go_wp2_with fail
        refine (CB.out _ h4).mono ?_
        rintro e w5 ⟨rfl, h5⟩
        have h5' := h4.trans (h5.mono h4.size)
        clear h5 h4 h3'
        go_wp2_with fail
        refine (text_any _ _).mono ?_
        rintro e w2 ⟨rfl, c3, rfl⟩
        have h6 := h5'.alloc h5'.size (.cells c3 30)
        go_wp2_with fail
        refine (text_any _ _).mono ?_
        rintro e w2 ⟨rfl, c4, rfl⟩
        have h7 := h6.alloc h6.size (.cells c4 30)
        clear h6 h5'
        go_wp2_with fail
        refine (CC.out _ h7).mono ?_
        rintro e w8 ⟨rfl, h8⟩
        have h8' := h7.trans (h8.mono h7.size)
        clear h8 h7
        go_wp2_with fail
        refine (R1.out _).mono ?_
        rintro e w9 ⟨rfl, p1, rfl⟩
        have h9 := h8'.alloc h8'.size (.stringIter (a ++ b) p1)
        go_wp2_with fail
        refine (R2.out _).mono ?_
        rintro e w9 ⟨rfl, p2, rfl⟩
        have h10 := h9.alloc h9.size (.stringIter a p2)
        go_wp2_with fail
        refine (R3.out _).mono ?_
        rintro e w9 ⟨rfl, p3, rfl⟩
        have h11 := h10.alloc h10.size (.stringIter b p3)
        clear h8' h9 h10
        go_wp2
        go_ret
        exact ⟨rfl, h11⟩
      · rw [if_neg e0] at cc
        have he2 : b.toList.isEmpty = false := by rw [he]; simp [e0]
        have CC : Hid (∀ W, Below w.heap.size w W → Calls Tryd.prog 12 #[.agg #[.int .u8 3, .bool false, .int .i64 0, .string a], .agg #[.int .u8 3, .bool false, .int .i64 0, .string (a ++ b)]] W fun e w' => e = .returned (.int .i64 (-1)) ∧ Below W.heap.size W w') := cc
        clear cc e0 he
        go_enter Tryd.func4, Tryd.ntmps4
        go_wp2_with fail
        refine lv.mono ?_
        rintro e w1 ⟨rfl, h1⟩
        go_wp2_with fail
        refine (text_any _ _).mono ?_
        rintro e w2 ⟨rfl, c1, rfl⟩
        have h2 := h1.alloc h1.size (.cells c1 30)
        go_wp2_with fail
        refine (CA.out _ h2).mono ?_
        rintro e w3 ⟨rfl, h3⟩
        have h3' := h2.trans (h3.mono h2.size)
        clear h3 h2
        go_wp2_with fail
        refine (text_any _ _).mono ?_
        rintro e w2 ⟨rfl, c2, rfl⟩
        have h4 := h3'.alloc h3'.size (.cells c2 30)
        go_wp2_with fail
        refine (CB.out _ h4).mono ?_
        rintro e w5 ⟨rfl, h5⟩
        have h5' := h4.trans (h5.mono h4.size)
        clear h5 h4 h3'
        go_wp2_with fail
        refine (text_any _ _).mono ?_
        rintro e w2 ⟨rfl, c3, rfl⟩
        have h6 := h5'.alloc h5'.size (.cells c3 30)
        go_wp2_with fail
        refine (text_any _ _).mono ?_
        rintro e w2 ⟨rfl, c4, rfl⟩
        have h7 := h6.alloc h6.size (.cells c4 30)
        clear h6 h5'
        go_wp2_with fail
        refine (CC.out _ h7).mono ?_
        rintro e w8 ⟨rfl, h8⟩
        have h8' := h7.trans (h8.mono h7.size)
        clear h8 h7
        go_wp2_with fail
        refine (R1.out _).mono ?_
        rintro e w9 ⟨rfl, p1, rfl⟩
        have h9 := h8'.alloc h8'.size (.stringIter (a ++ b) p1)
        go_wp2_with fail
        refine (R2.out _).mono ?_
        rintro e w9 ⟨rfl, p2, rfl⟩
        have h10 := h9.alloc h9.size (.stringIter a p2)
        go_wp2_with fail
        refine (R3.out _).mono ?_
        rintro e w9 ⟨rfl, p3, rfl⟩
        have h11 := h10.alloc h10.size (.stringIter b p3)
        clear h8' h9 h10
        go_wp2
        go_ret
        exact ⟨rfl, h11⟩
    · have tb : (xb != 0) = true := bne_iff_ne.2 zb
      subst za
      clear fa fb
      go_enter Tryd.func4, Tryd.ntmps4
      go_wp2_with fail
      refine lv.mono ?_
      rintro e w1 ⟨rfl, h1⟩
      go_wp2_with fail
      refine (text_any _ _).mono ?_
      rintro e w2 ⟨rfl, c1, rfl⟩
      have h2 := h1.alloc h1.size (.cells c1 30)
      go_wp2_with fail
      refine (CA.out _ h2).mono ?_
      rintro e w3 ⟨rfl, h3⟩
      have h3' := h2.trans (h3.mono h2.size)
      clear h3
      go_wp2_with fail
      refine (text_any _ _).mono ?_
      rintro e w2 ⟨rfl, c2, rfl⟩
      have h4 := h3'.alloc h3'.size (.cells c2 30)
      go_wp2_with fail
      refine (CB.out _ h4).mono ?_
      rintro e w5 ⟨rfl, h5⟩
      have h5' := h4.trans (h5.mono h4.size)
      go_wp2
      go_ret
      exact ⟨rfl, h5'⟩
  · have ta : (xa != 0) = true := bne_iff_ne.2 za
    clear fa fb
    go_enter Tryd.func4, Tryd.ntmps4
    go_wp2_with fail
    refine lv.mono ?_
    rintro e w1 ⟨rfl, h1⟩
    go_wp2_with fail
    refine (text_any _ _).mono ?_
    rintro e w2 ⟨rfl, c1, rfl⟩
    have h2 := h1.alloc h1.size (.cells c1 30)
    go_wp2_with fail
    refine (CA.out _ h2).mono ?_
    rintro e w3 ⟨rfl, h3⟩
    have h3' := h2.trans (h3.mono h2.size)
    go_wp2
    go_ret
    exact ⟨rfl, h3'⟩
end Go.Proofs.YtieomobhdhchlaaDoor
