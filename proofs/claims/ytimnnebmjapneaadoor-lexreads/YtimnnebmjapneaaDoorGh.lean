/- What the reference's word reads. -/
import Derived.Test.YtimnnebmjapneaaDoorGg
namespace Go.Proofs.YtimnnebmjapneaaDoor
open Go.RowKit Go.Lib
set_option linter.unusedVariables false
theorem wordAns_zero (ls : List Let) : wordAns ls 0 = if anyBad (ls.take (wlen ls)) then ⟨noTok, 0, 9⟩ else if wErr (enc (ls.take (wlen ls))) = 0 then ⟨{ wTok (enc (ls.take (wlen ls))) with a := 0 }, ((wlen ls : Nat) : Int), 0⟩ else ⟨noTok, 0, wErr (enc (ls.take (wlen ls)))⟩ := by
  simp [wordAns]
set_option maxRecDepth 100000 in
set_option maxHeartbeats 4000000 in
theorem wordR_any (b o c : Nat) (ls : List Let) (w : World) (hg : GA w (some ⟨b, o, none⟩) ls) (hl : ls.length ≤ 2048) (hc1 : ls.length ≤ c) (hc2 : c ≤ maxLen) (ho : ∀ x ∈ ls, okZ x.1) (hn1 : 1 ≤ wlen ls) :
    Calls Tryd.prog 25 #[.slice (some ⟨b, o, none⟩) ls.length c] w fun e w' => e = .returned (wordAns ls 0).v ∧ Below w.heap.size w w' := by
  unfold maxLen at hc2
  have hwl := wlen_le ls
  obtain ⟨x0, m, rfl⟩ : ∃ x m, ls = x :: m := by cases ls with
    | nil => simp [wlen] at hn1
    | cons x m => exact ⟨x, m, rfl⟩
  have hA := wordAns_zero (x0 :: m)
  obtain ⟨N, hN⟩ : ∃ N, wlen (x0 :: m) = N := ⟨_, rfl⟩
  rw [hN] at hA hwl hn1
  obtain ⟨n1, rfl⟩ : ∃ n1, N = n1 + 1 := ⟨N - 1, by omega⟩
  have hseg : (x0 :: m).take (n1 + 1) = x0 :: m.take n1 := rfl
  rw [hseg] at hA
  have hsl : (x0 :: m.take n1).length = n1 + 1 := by rw [← hseg, List.length_take]; omega
  have hso : ∀ x ∈ x0 :: m.take n1, okZ x.1 := fun x hx => ho x (by rw [← hseg] at hx; exact List.mem_of_mem_take hx)
  have hsg : ∀ W, Below w.heap.size w W → GA W (some ⟨b, o, none⟩) (x0 :: m.take n1) := fun W hW => by rw [← hseg]; exact (hg.below hW).take _
  have hbg := begNum_enc (x0 :: m.take n1) hso
  have hS := enc_le (x0 :: m.take n1)
  rw [hsl] at hS
  have CE : Hid (∀ W, Below w.heap.size w W → Calls Tryd.prog 39 #[.slice (some ⟨b, o, none⟩) (x0 :: m).length c] W fun e w' => e = .returned (.int .i64 ((n1 + 1 : Nat) : Int)) ∧ w' = W) := fun W hW => ends_any _ c (x0 :: m) W (hg.below hW) hl hc1 (n1 + 1) hN
  have CI : Hid (∀ W, Below w.heap.size w W → Calls Tryd.prog 37 #[.slice (some ⟨b, o, none⟩) (n1 + 1) c] W fun e w' => e = .returned (.bool (anyBad (x0 :: m.take n1))) ∧ Below W.heap.size W w') := fun W hW => by
    have := ill_any (some ⟨b, o, none⟩) c (x0 :: m.take n1) W (hsg W hW) (by omega) _ (by show _ = _; rfl)
    rwa [hsl] at this
  have CX : Hid (∀ W, Below w.heap.size w W → Calls Tryd.prog 36 #[.slice (some ⟨b, o, none⟩) (n1 + 1) c] W fun e w' => e = .returned (.string ⟨(enc (x0 :: m.take n1)).toArray⟩) ∧ Below W.heap.size W w') := fun W hW => by
    have := text_any (some ⟨b, o, none⟩) c (x0 :: m.take n1) W (hsg W hW) (by omega) hso _ (by show _ = _; rfl)
    rwa [hsl] at this
  have CD : Hid (∀ r W, Calls Tryd.prog 40 #[.int .i32 r] W fun e w' => e = .returned (.bool (digR r)) ∧ w' = W) := digitR_any
  have HC : Hid (∀ W, Below w.heap.size w W → W.cell? ⟨b, o, none⟩ = some (.int .i32 x0.1)) := fun W hW => by
    obtain ⟨b', o', e, _, hc⟩ := (hg.below hW) (by simp)
    simp only [Option.some.injEq, Addr.mk.injEq, and_true] at e
    obtain ⟨rfl, rfl⟩ := e
    have := (hc 0 (by simp)).1
    simpa using this
  have HC1 : Hid (∀ W y m', m = y :: m' → Below w.heap.size w W → W.cell? ⟨b, o + 2, none⟩ = some (.int .i32 y.1)) := fun W y m' hm hW => by
    subst hm
    obtain ⟨b', o', e, _, hc⟩ := (hg.below hW) (by simp)
    simp only [Option.some.injEq, Addr.mk.injEq, and_true] at e
    obtain ⟨rfl, rfl⟩ := e
    have := (hc 1 (by simp)).1
    simpa using this
  have HM : Hid (m.take n1 = [] ↔ n1 = 0) := by
    rw [List.take_eq_nil_iff]
    constructor
    · rintro (h | h)
      · exact h
      · subst h; simp at hwl; omega
    · exact Or.inl
  obtain ⟨LN, hLN⟩ : ∃ L, (x0 :: m).length = L := ⟨_, rfl⟩
  have hLm : m.length + 1 = LN := by rw [← hLN]; rfl
  have HLm : Hid (m.length + 1 = LN) := hLm
  rw [hLN] at hl hc1 CE hwl ⊢
  obtain ⟨S, hSe⟩ : ∃ S, enc (x0 :: m.take n1) = S := ⟨_, rfl⟩
  rw [hSe] at hA hbg hS CX
  have CN : Hid (begNum S = true → ∀ W, Calls Tryd.prog 41 #[.string ⟨S.toArray⟩] W fun e w' => e = .returned (numV (numOf S)) ∧ Below W.heap.size W w') := fun h W => number_any S W h (by omega) _ (by show _ = _; rfl)
  have hsz := size_mk S
  obtain ⟨BAD, hBAD⟩ : ∃ B, anyBad (x0 :: m.take n1) = B := ⟨_, rfl⟩
  rw [hBAD] at hA CI
  obtain ⟨ANS, hANS⟩ : ∃ A, wordAns (x0 :: m) 0 = A := ⟨_, rfl⟩
  rw [hANS] at hA ⊢
  have W0B : Hid (Below w.heap.size w (w.alloc (tokO 0 ⟨#[]⟩ 0 0))) := (Below.refl _ w).alloc (Nat.le_refl _) _
  have HBEG : Hid (begNum S = begR (x0 :: m.take n1)) := hbg
  have z1 : (1 : Int) ≤ ((n1 + 1 : Nat) : Int) := by omega
  have z2 : ((n1 : Nat) : Int) + 1 ≤ (LN : Int) := by omega
  have z3 : ((n1 : Nat) : Int) + 1 ≤ (c : Int) := by omega
  have z4 : (0 : Int) < (LN : Int) := by omega
  clear hbg hBAD hANS hSe hLN hsg hso hseg hsl hg ho hN hLm
  go_enter Tryd.func25, Tryd.ntmps25
  go_wp2_with fail
  refine (CE.out _ W0B.out).mono ?_
  rintro e w1 ⟨rfl, rfl⟩
  clear CE
  go_wp2_with fail
  refine (CI.out _ W0B.out).mono ?_
  rintro e w1 ⟨rfl, hw1⟩
  have HB1 : Hid (Below w.heap.size w w1) := W0B.out.trans (hw1.mono (by simp))
  have hbl1 : Hid (w1.heap[w.heap.size]? = some (tokO 0 ⟨#[]⟩ 0 0)) := (hw1.block _ (by simp)).trans (own_new w _)
  clear hw1 CI
  cases BAD with
  | true =>
    obtain rfl : ⟨noTok, 0, 9⟩ = ANS := by rw [hA, if_pos rfl]
    clear hA CX CD CN HC HC1 HBEG
    obtain ⟨k0, k1, k2, k3, f0, f1, f2, f3⟩ := tok_cells hbl1.out
    go_wp2_with fail
    obtain ⟨d0', d1', d2', d3', _⟩ := tok_cells (setTok_at hbl1.out 0 ⟨#[]⟩ 0 0)
    have HBt : Hid (Below w.heap.size w (setTok w1 w.heap.size 0 ⟨#[]⟩ 0 0)) := setTok_below (HB1.out) (Nat.le_refl _) _ _ _ _
    generalize hW : setTok w1 w.heap.size 0 ⟨#[]⟩ 0 0 = W4 at d0' d1' d2' d3' HBt
    unfold setTok at hW
    rw [hW]
    exact bodyPost_ret (v := .tuple #[.agg #[.int .u8 0, .string ⟨#[]⟩, .int .i64 0, .int .i64 0], .int .i64 0, .int .i64 9]) (by simp [results, Tryd.results25, go_sem, d0', d1', d2', d3']) rfl ⟨rfl, HBt.out⟩
  | false =>
    rw [if_neg (by simp)] at hA
    go_wp2_with fail
    refine (CX.out _ HB1.out).mono ?_
    rintro e w2 ⟨rfl, hw2⟩
    have HB2 : Hid (Below w.heap.size w w2) := HB1.out.trans (hw2.mono (HB1.out.size))
    have hbl2 : Hid (w2.heap[w.heap.size]? = some (tokO 0 ⟨#[]⟩ 0 0)) := (hw2.block _ (lt_of_block hbl1.out)).trans hbl1.out
    clear hw2 CX HB1 hbl1
    have y0 := HC.out _ HB2.out
    obtain ⟨⟨r0, bd0⟩, hx0⟩ : ∃ x, x0 = x := ⟨_, rfl⟩
    rw [hx0] at y0 HBEG
    simp only at y0
    clear HC hx0
    go_wp2_with fail
    refine (CD.out _ _).mono ?_
    rintro e w3 ⟨rfl, rfl⟩
    cases hd0 : digR r0 with
    | true =>
      have hb : begNum S = true := by rw [HBEG.out]; simp [begR, hd0]
      clear HBEG CD HC1
      have hbs := HB2.out.size
      go_wp2_with fail
      refine (CN.out hb _).mono ?_
      rintro e w5 ⟨rfl, hw5⟩
      have HB5 : Hid (Below w.heap.size w w5) := HB2.out.trans (hw5.mono (HB2.out.size))
      have hbl5 : Hid (w5.heap[w.heap.size]? = some (tokO 0 ⟨#[]⟩ 0 0)) := (hw5.block _ (lt_of_block hbl2.out)).trans hbl2.out
      have hs5 := hw5.size
      clear hw5 CN
      have a0 : ∀ o, (w5.alloc o).cell? ⟨w.heap.size, 0, none⟩ = some (.int .u8 0) := fun o => (tok_cells (tok_under hbl5.out o)).1
      have a1 : ∀ o, (w5.alloc o).cell? ⟨w.heap.size, 1, none⟩ = some (.string ⟨#[]⟩) := fun o => (tok_cells (tok_under hbl5.out o)).2.1
      have a2 : ∀ o, (w5.alloc o).cell? ⟨w.heap.size, 2, none⟩ = some (.int .i64 0) := fun o => (tok_cells (tok_under hbl5.out o)).2.2.1
      have a3 : ∀ o, (w5.alloc o).cell? ⟨w.heap.size, 3, none⟩ = some (.int .i64 0) := fun o => (tok_cells (tok_under hbl5.out o)).2.2.2.1
      have f0 : ∀ o, (w5.alloc o).frozen? ⟨w.heap.size, 0, none⟩ = false := fun o => (tok_cells (tok_under hbl5.out o)).2.2.2.2.1
      have f1 : ∀ o, (w5.alloc o).frozen? ⟨w.heap.size, 1, none⟩ = false := fun o => (tok_cells (tok_under hbl5.out o)).2.2.2.2.2.1
      have f2 : ∀ o, (w5.alloc o).frozen? ⟨w.heap.size, 2, none⟩ = false := fun o => (tok_cells (tok_under hbl5.out o)).2.2.2.2.2.2.1
      have f3 : ∀ o, (w5.alloc o).frozen? ⟨w.heap.size, 3, none⟩ = false := fun o => (tok_cells (tok_under hbl5.out o)).2.2.2.2.2.2.2
      cases hnum : numOf S with
      | none =>
        obtain rfl : ⟨noTok, 0, 13⟩ = ANS := by rw [hA]; simp [wErr, hb, numErr, hnum]
        clear hA hnum hb HB2 hbl2 y0
        simp only [numV, noTok, Tok.v]
        go_wp2_with fail
        obtain ⟨d0', d1', d2', d3', _⟩ := tok_cells (setTok_at (tok_under hbl5.out _) 0 ⟨#[]⟩ 0 0)
        have HBt : Hid (Below w.heap.size w (setTok (w5.alloc (tokO 0 ⟨#[]⟩ 0 0)) w.heap.size 0 ⟨#[]⟩ 0 0)) := setTok_below (HB5.out.alloc (by omega) _) (Nat.le_refl _) _ _ _ _
        generalize hW : setTok (w5.alloc (tokO 0 ⟨#[]⟩ 0 0)) w.heap.size 0 ⟨#[]⟩ 0 0 = W4 at d0' d1' d2' d3' HBt
        unfold setTok tokO at hW
        rw [hW]
        exact bodyPost_ret (v := .tuple #[.agg #[.int .u8 0, .string ⟨#[]⟩, .int .i64 0, .int .i64 0], .int .i64 0, .int .i64 13]) (by simp [results, Tryd.results25, go_sem, d0', d1', d2', d3']) rfl ⟨rfl, HBt.out⟩
      | some v =>
        obtain rfl : ⟨⟨4, [], v, 0⟩, ((n1 + 1 : Nat) : Int), 0⟩ = ANS := by rw [hA]; simp [wErr, wTok, hb, numErr, numTok, hnum]
        clear hA hnum hb HB2 hbl2 y0
        simp only [numV, Tok.v]
        go_wp2_with fail
        obtain ⟨d0', d1', d2', d3', _⟩ := tok_cells (setTok_at (tok_under hbl5.out _) 4 ⟨#[]⟩ v 0)
        have HBt : Hid (Below w.heap.size w (setTok (w5.alloc (tokO 4 ⟨#[]⟩ v 0)) w.heap.size 4 ⟨#[]⟩ v 0)) := setTok_below (HB5.out.alloc (by omega) _) (Nat.le_refl _) _ _ _ _
        generalize hW : setTok (w5.alloc (tokO 4 ⟨#[]⟩ v 0)) w.heap.size 4 ⟨#[]⟩ v 0 = W4 at d0' d1' d2' d3' HBt
        unfold setTok tokO at hW
        rw [hW]
        exact bodyPost_ret (v := .tuple #[.agg #[.int .u8 4, .string ⟨#[]⟩, .int .i64 v, .int .i64 0], .int .i64 ((n1 + 1 : Nat) : Int), .int .i64 0]) (by simp [results, Tryd.results25, go_sem, d0', d1', d2', d3']) rfl ⟨rfl, HBt.out⟩
    | false =>
      by_cases h45 : r0 = 45
      · subst h45
        by_cases h1 : n1 = 0
        · have hb : begNum S = false := by rw [HBEG.out, h1]; simp [begR]; decide
          have z6 : ¬ (1 : Int) < (n1 : Int) + 1 := by omega
          have d1 : decide ((1 : Int) < (n1 : Int) + 1) = false := decide_eq_false z6
          clear HBEG CD HC1 h1
          have hbs := HB2.out.size
          obtain ⟨k0, k1, k2, k3, f0, f1, f2, f3⟩ := tok_cells hbl2.out
          by_cases h64 : 64 < S.length
          · exact absurd h64 (by omega)
          · have t1 : ¬ (64 : Int) < ((⟨S.toArray⟩ : ByteArray).size : Int) := by omega
            obtain rfl : ⟨⟨3, S, 0, 0⟩, ((n1 + 1 : Nat) : Int), 0⟩ = ANS := by rw [hA]; simp [wErr, wTok, hb, h64]
            clear hA hb CN
            go_wp2_with fail
            obtain ⟨d0', d1', d2', d3', _⟩ := tok_cells (setTok_at hbl2.out 3 ⟨S.toArray⟩ 0 0)
            have HBt : Hid (Below w.heap.size w (setTok w3 w.heap.size 3 ⟨S.toArray⟩ 0 0)) := setTok_below (HB2.out) (Nat.le_refl _) _ _ _ _
            generalize hW : setTok w3 w.heap.size 3 ⟨S.toArray⟩ 0 0 = W4 at d0' d1' d2' d3' HBt
            unfold setTok at hW
            rw [hW]
            exact bodyPost_ret (v := .tuple #[.agg #[.int .u8 3, .string ⟨S.toArray⟩, .int .i64 0, .int .i64 0], .int .i64 ((n1 + 1 : Nat) : Int), .int .i64 0]) (by simp [results, Tryd.results25, go_sem, d0', d1', d2', d3']) rfl ⟨rfl, HBt.out⟩
        · have hm1 : m.take n1 ≠ [] := fun h => h1 (HM.out.1 h)
          obtain ⟨y, m', hm⟩ : ∃ y m', m = y :: m' := by cases m with
            | nil => simp at hm1
            | cons y m' => exact ⟨y, m', rfl⟩
          have y1 := HC1.out w3 y m' hm HB2.out
          have hbe : begNum S = digR y.1 := by
            rw [HBEG.out, hm]
            obtain ⟨n2, rfl⟩ : ∃ n2, n1 = n2 + 1 := ⟨n1 - 1, by omega⟩
            have : digR 45 = false := by decide
            simp [begR, this]
          have z5 : (1 : Int) < (LN : Int) := by omega
          have z6 : (1 : Int) < (n1 : Int) + 1 := by omega
          have z7 : (1 : Int) < ((n1 + 1 : Nat) : Int) := by omega
          have d1 : decide ((1 : Int) < (n1 : Int) + 1) = true := decide_eq_true z6
          have d2 : decide ((1 : Int) < ((n1 + 1 : Nat) : Int)) = true := decide_eq_true z7
          obtain ⟨⟨r1, bd1⟩, hy⟩ : ∃ x, y = x := ⟨_, rfl⟩
          rw [hy] at y1 hbe
          simp only at y1 hbe
          clear hm hm1 hy HBEG HC1 HM
          go_wp2_with fail
          refine (CD.out _ _).mono ?_
          rintro e w4 ⟨rfl, rfl⟩
          cases hd1 : digR r1 with
          | true =>
            have hb : begNum S = true := by rw [hbe, hd1]
            clear hbe CD
            have hbs := HB2.out.size
            go_wp2_with fail
            refine (CN.out hb _).mono ?_
            rintro e w5 ⟨rfl, hw5⟩
            have HB5 : Hid (Below w.heap.size w w5) := HB2.out.trans (hw5.mono (HB2.out.size))
            have hbl5 : Hid (w5.heap[w.heap.size]? = some (tokO 0 ⟨#[]⟩ 0 0)) := (hw5.block _ (lt_of_block hbl2.out)).trans hbl2.out
            have hs5 := hw5.size
            clear hw5 CN
            have a0 : ∀ o, (w5.alloc o).cell? ⟨w.heap.size, 0, none⟩ = some (.int .u8 0) := fun o => (tok_cells (tok_under hbl5.out o)).1
            have a1 : ∀ o, (w5.alloc o).cell? ⟨w.heap.size, 1, none⟩ = some (.string ⟨#[]⟩) := fun o => (tok_cells (tok_under hbl5.out o)).2.1
            have a2 : ∀ o, (w5.alloc o).cell? ⟨w.heap.size, 2, none⟩ = some (.int .i64 0) := fun o => (tok_cells (tok_under hbl5.out o)).2.2.1
            have a3 : ∀ o, (w5.alloc o).cell? ⟨w.heap.size, 3, none⟩ = some (.int .i64 0) := fun o => (tok_cells (tok_under hbl5.out o)).2.2.2.1
            have f0 : ∀ o, (w5.alloc o).frozen? ⟨w.heap.size, 0, none⟩ = false := fun o => (tok_cells (tok_under hbl5.out o)).2.2.2.2.1
            have f1 : ∀ o, (w5.alloc o).frozen? ⟨w.heap.size, 1, none⟩ = false := fun o => (tok_cells (tok_under hbl5.out o)).2.2.2.2.2.1
            have f2 : ∀ o, (w5.alloc o).frozen? ⟨w.heap.size, 2, none⟩ = false := fun o => (tok_cells (tok_under hbl5.out o)).2.2.2.2.2.2.1
            have f3 : ∀ o, (w5.alloc o).frozen? ⟨w.heap.size, 3, none⟩ = false := fun o => (tok_cells (tok_under hbl5.out o)).2.2.2.2.2.2.2
            cases hnum : numOf S with
            | none =>
              obtain rfl : ⟨noTok, 0, 13⟩ = ANS := by rw [hA]; simp [wErr, hb, numErr, hnum]
              clear hA hnum hb HB2 hbl2 y0
              simp only [numV, noTok, Tok.v]
              go_wp2_with fail
              obtain ⟨d0', d1', d2', d3', _⟩ := tok_cells (setTok_at (tok_under hbl5.out _) 0 ⟨#[]⟩ 0 0)
              have HBt : Hid (Below w.heap.size w (setTok (w5.alloc (tokO 0 ⟨#[]⟩ 0 0)) w.heap.size 0 ⟨#[]⟩ 0 0)) := setTok_below (HB5.out.alloc (by omega) _) (Nat.le_refl _) _ _ _ _
              generalize hW : setTok (w5.alloc (tokO 0 ⟨#[]⟩ 0 0)) w.heap.size 0 ⟨#[]⟩ 0 0 = W4 at d0' d1' d2' d3' HBt
              unfold setTok tokO at hW
              rw [hW]
              exact bodyPost_ret (v := .tuple #[.agg #[.int .u8 0, .string ⟨#[]⟩, .int .i64 0, .int .i64 0], .int .i64 0, .int .i64 13]) (by simp [results, Tryd.results25, go_sem, d0', d1', d2', d3']) rfl ⟨rfl, HBt.out⟩
            | some v =>
              obtain rfl : ⟨⟨4, [], v, 0⟩, ((n1 + 1 : Nat) : Int), 0⟩ = ANS := by rw [hA]; simp [wErr, wTok, hb, numErr, numTok, hnum]
              clear hA hnum hb HB2 hbl2 y0
              simp only [numV, Tok.v]
              go_wp2_with fail
              obtain ⟨d0', d1', d2', d3', _⟩ := tok_cells (setTok_at (tok_under hbl5.out _) 4 ⟨#[]⟩ v 0)
              have HBt : Hid (Below w.heap.size w (setTok (w5.alloc (tokO 4 ⟨#[]⟩ v 0)) w.heap.size 4 ⟨#[]⟩ v 0)) := setTok_below (HB5.out.alloc (by omega) _) (Nat.le_refl _) _ _ _ _
              generalize hW : setTok (w5.alloc (tokO 4 ⟨#[]⟩ v 0)) w.heap.size 4 ⟨#[]⟩ v 0 = W4 at d0' d1' d2' d3' HBt
              unfold setTok tokO at hW
              rw [hW]
              exact bodyPost_ret (v := .tuple #[.agg #[.int .u8 4, .string ⟨#[]⟩, .int .i64 v, .int .i64 0], .int .i64 ((n1 + 1 : Nat) : Int), .int .i64 0]) (by simp [results, Tryd.results25, go_sem, d0', d1', d2', d3']) rfl ⟨rfl, HBt.out⟩
          | false =>
            have hb : begNum S = false := by rw [hbe, hd1]
            clear hbe CD
            have hbs := HB2.out.size
            obtain ⟨k0, k1, k2, k3, f0, f1, f2, f3⟩ := tok_cells hbl2.out
            by_cases h64 : 64 < S.length
            · have t1 : (64 : Int) < ((⟨S.toArray⟩ : ByteArray).size : Int) := by omega
              obtain rfl : ⟨noTok, 0, 13⟩ = ANS := by rw [hA]; simp [wErr, hb, h64]
              clear hA hb CN
              go_wp2_with fail
              obtain ⟨d0', d1', d2', d3', _⟩ := tok_cells (setTok_at hbl2.out 0 ⟨#[]⟩ 0 0)
              have HBt : Hid (Below w.heap.size w (setTok w4 w.heap.size 0 ⟨#[]⟩ 0 0)) := setTok_below (HB2.out) (Nat.le_refl _) _ _ _ _
              generalize hW : setTok w4 w.heap.size 0 ⟨#[]⟩ 0 0 = W4 at d0' d1' d2' d3' HBt
              unfold setTok at hW
              rw [hW]
              exact bodyPost_ret (v := .tuple #[.agg #[.int .u8 0, .string ⟨#[]⟩, .int .i64 0, .int .i64 0], .int .i64 0, .int .i64 13]) (by simp [results, Tryd.results25, go_sem, d0', d1', d2', d3']) rfl ⟨rfl, HBt.out⟩
            · have t1 : ¬ (64 : Int) < ((⟨S.toArray⟩ : ByteArray).size : Int) := by omega
              obtain rfl : ⟨⟨3, S, 0, 0⟩, ((n1 + 1 : Nat) : Int), 0⟩ = ANS := by rw [hA]; simp [wErr, wTok, hb, h64]
              clear hA hb CN
              go_wp2_with fail
              obtain ⟨d0', d1', d2', d3', _⟩ := tok_cells (setTok_at hbl2.out 3 ⟨S.toArray⟩ 0 0)
              have HBt : Hid (Below w.heap.size w (setTok w4 w.heap.size 3 ⟨S.toArray⟩ 0 0)) := setTok_below (HB2.out) (Nat.le_refl _) _ _ _ _
              generalize hW : setTok w4 w.heap.size 3 ⟨S.toArray⟩ 0 0 = W4 at d0' d1' d2' d3' HBt
              unfold setTok at hW
              rw [hW]
              exact bodyPost_ret (v := .tuple #[.agg #[.int .u8 3, .string ⟨S.toArray⟩, .int .i64 0, .int .i64 0], .int .i64 ((n1 + 1 : Nat) : Int), .int .i64 0]) (by simp [results, Tryd.results25, go_sem, d0', d1', d2', d3']) rfl ⟨rfl, HBt.out⟩
      · have h45' : (r0 == 45) = false := beq_eq_false_iff_ne.2 h45
        have hb : begNum S = false := by rw [HBEG.out]; simp [begR, hd0, h45]
        clear HBEG CD HC1
        have hbs := HB2.out.size
        obtain ⟨k0, k1, k2, k3, f0, f1, f2, f3⟩ := tok_cells hbl2.out
        by_cases h64 : 64 < S.length
        · have t1 : (64 : Int) < ((⟨S.toArray⟩ : ByteArray).size : Int) := by omega
          obtain rfl : ⟨noTok, 0, 13⟩ = ANS := by rw [hA]; simp [wErr, hb, h64]
          clear hA hb CN
          go_wp2_with fail
          obtain ⟨d0', d1', d2', d3', _⟩ := tok_cells (setTok_at hbl2.out 0 ⟨#[]⟩ 0 0)
          have HBt : Hid (Below w.heap.size w (setTok w3 w.heap.size 0 ⟨#[]⟩ 0 0)) := setTok_below (HB2.out) (Nat.le_refl _) _ _ _ _
          generalize hW : setTok w3 w.heap.size 0 ⟨#[]⟩ 0 0 = W4 at d0' d1' d2' d3' HBt
          unfold setTok at hW
          rw [hW]
          exact bodyPost_ret (v := .tuple #[.agg #[.int .u8 0, .string ⟨#[]⟩, .int .i64 0, .int .i64 0], .int .i64 0, .int .i64 13]) (by simp [results, Tryd.results25, go_sem, d0', d1', d2', d3']) rfl ⟨rfl, HBt.out⟩
        · have t1 : ¬ (64 : Int) < ((⟨S.toArray⟩ : ByteArray).size : Int) := by omega
          obtain rfl : ⟨⟨3, S, 0, 0⟩, ((n1 + 1 : Nat) : Int), 0⟩ = ANS := by rw [hA]; simp [wErr, wTok, hb, h64]
          clear hA hb CN
          go_wp2_with fail
          obtain ⟨d0', d1', d2', d3', _⟩ := tok_cells (setTok_at hbl2.out 3 ⟨S.toArray⟩ 0 0)
          have HBt : Hid (Below w.heap.size w (setTok w3 w.heap.size 3 ⟨S.toArray⟩ 0 0)) := setTok_below (HB2.out) (Nat.le_refl _) _ _ _ _
          generalize hW : setTok w3 w.heap.size 3 ⟨S.toArray⟩ 0 0 = W4 at d0' d1' d2' d3' HBt
          unfold setTok at hW
          rw [hW]
          exact bodyPost_ret (v := .tuple #[.agg #[.int .u8 3, .string ⟨S.toArray⟩, .int .i64 0, .int .i64 0], .int .i64 ((n1 + 1 : Nat) : Int), .int .i64 0]) (by simp [results, Tryd.results25, go_sem, d0', d1', d2', d3']) rfl ⟨rfl, HBt.out⟩
end Go.Proofs.YtimnnebmjapneaaDoor
