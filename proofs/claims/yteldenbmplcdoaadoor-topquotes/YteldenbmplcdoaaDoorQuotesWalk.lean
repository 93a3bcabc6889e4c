/- The law LexQuotes returns true. -/
import Derived.Test.YteldenbmplcdoaaDoorLn
namespace Go.Proofs.YteldenbmplcdoaaDoor
open Go.RowKit Go.Lib Go.Sort
set_option linter.unusedVariables false
set_option linter.unusedSimpArgs false
attribute [local go_sem ↓] Go.wp_at_zero Go.wp_at_succ

theorem enc_some (r : Int) : 1 ≤ (Utf8.encode r).size ∧ (Utf8.encode r).size ≤ 4 := by
  unfold Utf8.encode
  generalize (if Utf8.valid r = true then r.toNat else Utf8.runeError) = c
  simp only
  split
  · exact ⟨Nat.le_refl 1, by show 1 ≤ 4; omega⟩
  split
  · exact ⟨by show 1 ≤ 2; omega, by show 2 ≤ 4; omega⟩
  split
  · exact ⟨by show 1 ≤ 3; omega, by show 3 ≤ 4; omega⟩
  · exact ⟨by show 1 ≤ 4; omega, by show 4 ≤ 4; omega⟩
theorem same_of {x y : Tok} (h : sameTok x y = true) : x = y := by
  obtain ⟨k, t, n, a⟩ := x
  obtain ⟨k', t', n', a'⟩ := y
  simp only [sameTok, Bool.and_eq_true, decide_eq_true_eq] at h
  obtain ⟨⟨⟨rfl, rfl⟩, rfl⟩, rfl⟩ := h
  rfl
/-- What is shown is read as the token. -/
theorem reads_of {l : List UInt8} {t : Tok} (h : readsP l t = true) : ∃ p pl, lexP l = ([{ t with a := p }], 0, pl) := by
  unfold readsP at h
  split at h
  · rename_i h0
    split at h
    · rename_i x hx
      have := same_of h
      obtain ⟨⟨ts, er, pl⟩, hP⟩ : ∃ P, lexP l = P := ⟨_, rfl⟩
      rw [hP] at h0 hx
      simp only at h0 hx
      rw [hP, hx, h0]
      exact ⟨x.a, pl, by rw [← this]⟩
    · cases h
  · cases h
theorem show_cases (t : Tok) : ((showP t).2 ≠ 0 ∧ (showP t).1 = []) ∨ ((showP t).2 = 0 ∧ readsP (showP t).1 t = true ∧ (showP t).1 = writeP t ∧ t.t.length ≤ 256) := by
  unfold showP
  split
  · left; simp
  · split
    · rename_i h1 h2; right; exact ⟨rfl, h2, rfl, by omega⟩
    · left; simp
set_option maxRecDepth 100000 in
set_option maxHeartbeats 4000000 in
theorem quotes_any (s : ByteArray) (r : Int) (hs : s.size ≤ 140737488355328) (hr0 : 0 ≤ r) (hr1 : r ≤ 4294967295) (w : World) (hG : Glob2 w) :
    Calls Tryd.prog 4 #[.string s, .int .u32 r] w fun e w' => e = .returned (.bool true) ∧ Below w.heap.size w w' := by
  have CV : Hid (Calls Tryd.prog 9 #[] w fun e w' => e = .returned (.bool true) ∧ Below w.heap.size w w') := lives_any w hG
  have hsl : s.data.toList.length = s.size := by rw [Lib.size_eq]
  have hsa : (⟨s.data.toList.toArray⟩ : ByteArray) = s := by simp
  have hr2 : 0 ≤ r % 55296 ∧ r % 55296 < 55296 := by omega
  obtain ⟨E, hE⟩ : ∃ E, Utf8.encode (r % 55296) = E := ⟨_, rfl⟩
  have hE1 := enc_some (r % 55296)
  rw [hE] at hE1
  have C1 : Hid (∀ W, Below w.heap.size w W → Calls Tryd.prog 10 #[.agg #[.int .u8 5, .string s, .int .i64 0, .int .i64 0]] W fun e w' => e = .returned (.tuple #[.string ⟨(showP ⟨5, s.data.toList, 0, 0⟩).1.toArray⟩, .int .i64 (showP ⟨5, s.data.toList, 0, 0⟩).2]) ∧ Below W.heap.size W w') := fun W h => by
    have := show_any ⟨5, s.data.toList, 0, 0⟩ W (by simp only [hsl]; omega) (by simp) (by simp) (hG.below h)
    simp only [Tok.v, hsa] at this
    exact this
  have hcat : (s ++ E).data.toList = s.data.toList ++ E.data.toList := by simp
  have hsl2 : (s.data.toList ++ E.data.toList).length = s.size + E.size := by rw [List.length_append, ← Lib.size_eq, ← Lib.size_eq]
  have hsa2 : (⟨(s.data.toList ++ E.data.toList).toArray⟩ : ByteArray) = s ++ E := by apply ByteArray.ext; simp
  have C2 : Hid (∀ W, Below w.heap.size w W → Calls Tryd.prog 10 #[.agg #[.int .u8 5, .string (s ++ E), .int .i64 0, .int .i64 0]] W fun e w' => e = .returned (.tuple #[.string ⟨(showP ⟨5, s.data.toList ++ E.data.toList, 0, 0⟩).1.toArray⟩, .int .i64 (showP ⟨5, s.data.toList ++ E.data.toList, 0, 0⟩).2]) ∧ Below W.heap.size W w') := fun W h => by
    have := show_any ⟨5, s.data.toList ++ E.data.toList, 0, 0⟩ W (by simp only [hsl2]; omega) (by simp) (by simp) (hG.below h)
    simp only [Tok.v, hsa2] at this
    exact this
  have hEn : E.data.toList ≠ [] := by
    intro e
    have : E.size = 0 := by rw [Lib.size_eq, e]; rfl
    omega
  have hc1 := show_cases ⟨5, s.data.toList, 0, 0⟩
  have hc2 := show_cases ⟨5, s.data.toList ++ E.data.toList, 0, 0⟩
  obtain ⟨⟨S1, e1⟩, hS1⟩ : ∃ P, showP ⟨5, s.data.toList, 0, 0⟩ = P := ⟨_, rfl⟩
  obtain ⟨⟨S2, e2⟩, hS2⟩ : ∃ P, showP ⟨5, s.data.toList ++ E.data.toList, 0, 0⟩ = P := ⟨_, rfl⟩
  rw [hS1] at C1 hc1
  rw [hS2] at C2 hc2
  simp only at hc1 hc2
  rcases hc1 with ⟨h1, rfl⟩ | ⟨rfl, h1, h1w, h1l⟩
  · have hne : (e1 != 0) = true := bne_iff_ne.2 h1
    clear hS1 hS2 hc2 hcat hsl2 hsa2 hsa hsl C2 hE hE1 hEn hG
    go_enter Tryd.func4, Tryd.ntmps4
    go_wp2_with fail
    refine CV.out.mono ?_
    rintro e w1 ⟨rfl, hb1⟩
    have HB1 : Hid (Below w.heap.size w w1) := hb1
    clear hb1 CV
    go_wp2_with fail
    refine (C1.out _ HB1.out).mono ?_
    rintro e w2 ⟨rfl, hb2⟩
    have HB2 : Hid (Below w.heap.size w w2) := HB1.out.trans (hb2.mono HB1.out.size)
    clear hb2
    go_wp2_with fail
    go_ret
    exact ⟨rfl, HB2.out⟩
  · obtain ⟨p1, pl1, hP1⟩ := reads_of h1
    simp only at hP1
    have hlen1 : S1.length ≤ 2000 := by rw [h1w]; exact writeP_len _ (by simpa using h1l) (by simp) (by simp)
    have CL : Hid (∀ W, Below w.heap.size w W → Calls Tryd.prog 11 #[.string ⟨S1.toArray⟩] W fun e w' => ∃ v, e = .returned (.tuple #[v, .int .i64 0, .int .i64 pl1]) ∧ LexOut W w' v [⟨5, s.data.toList, 0, p1⟩] ∧ Below W.heap.size W w') := fun W h => by
      have := lex_any ⟨S1.toArray⟩ W (by show S1.toArray.size ≤ _; simp; omega) (hG.below h).1
      rw [show (ByteArray.mk S1.toArray).data.toList = S1 by simp, hP1] at this
      exact this
    have HD : Hid (e2 = 0 → S2 ≠ S1) := fun h0 => by
      rcases hc2 with ⟨h2, _⟩ | ⟨_, h2, _⟩
      · exact absurd h0 h2
      · rintro rfl
        obtain ⟨p2, pl2, hP2⟩ := reads_of h2
        rw [hP1] at hP2
        simp only [Prod.mk.injEq, List.cons.injEq, Tok.mk.injEq, and_true, true_and] at hP2
        have := hP2.1.1
        exact hEn (by simpa using this)
    have hz1 : ¬ 9223372036854775807 < s.size + E.size := by omega
    clear hS1 hS2 hc2 hcat hsl2 hsa2 hsl hEn hG h1 h1w h1l hP1 hlen1
    go_enter Tryd.func4, Tryd.ntmps4
    go_wp2_with fail
    refine CV.out.mono ?_
    rintro e w1 ⟨rfl, hb1⟩
    have HB1 : Hid (Below w.heap.size w w1) := hb1
    clear hb1 CV
    go_wp2_with fail
    refine (C1.out _ HB1.out).mono ?_
    rintro e w2 ⟨rfl, hb2⟩
    have HB2 : Hid (Below w.heap.size w w2) := HB1.out.trans (hb2.mono HB1.out.size)
    clear hb2 HB1 C1
    go_wp2_with fail
    refine (CL.out _ HB2.out).mono ?_
    rintro e w3 ⟨v, rfl, ho, hb3⟩
    obtain ⟨g, cap, rfl, hg, y0, y1, y2, y3, hgl⟩ := own_one ho
    simp only [hsa] at y0 y1 y2 y3
    have HB3 : Hid (Below w.heap.size w w3) := HB2.out.trans (hb3.mono HB2.out.size)
    clear ho hb3 HB2 CL hg hgl hsa
    go_wp2_with fail
    refine (C2.out _ HB3.out).mono ?_
    rintro e w4 ⟨rfl, hb4⟩
    have HB4 : Hid (Below w.heap.size w w4) := HB3.out.trans (hb4.mono HB3.out.size)
    clear hb4 HB3 C2
    by_cases h0 : e2 = 0
    · have hd := HD.out h0
      subst h0
      have hq : (S2 == S1) = false := by simpa using hd
      clear hd HD
      go_wp2_with fail
      go_ret
      exact ⟨rfl, HB4.out⟩
    · have hne : (e2 != 0) = true := bne_iff_ne.2 h0
      go_wp2_with fail
      go_ret
      exact ⟨rfl, HB4.out⟩
end Go.Proofs.YteldenbmplcdoaaDoor
