/- The law TopQuotes returns true, of any two texts. -/
import Derived.Test.YteldenbmplcdoaaDoorTop0
import Derived.Deep.RegionHeld3
import Derived.Deep.DrawnRows
import Derived.Deep.QuietTactic
import Derived.BigQuiet
namespace Go.Proofs.YteldenbmplcdoaaDoor
open Go.RowKit Go.Lib
set_option linter.unusedVariables false
attribute [local go_sem ↓] Go.wp_at_zero Go.wp_at_succ
structure Later (B : Nat) (W0 : World) where
  w : World
  h : Below B W0 w
theorem wp_region_later {P : Program} {id : Nat} {Q : Exit → Act → World → Prop} {a : Act} {w : World} {l : List Oper} (hm : P.follows .mixedOrders = true) (hB : Region.lexB .any l.toArray = true)
    (h : wpQuiet P l.toArray (fun w' => ∃ p : Later w.heap.size w, w' = p.w) (fun a' => ∀ w', (∃ p : Later w.heap.size w, w' = p.w) → Q .normal a' w') l a) : (Code.region id l.toArray true).wp P Q a w :=
  wp_region_quiet (C := fun w' => ∃ p : Later w.heap.size w, w' = p.w) hm hB ⟨⟨w.drew, (Below.refl _ _).drew⟩, rfl⟩ (by simpa using h)
theorem calls_later {P : Program} {f : FuncId} {args : Array Value} {W0 : World} {p : Later W0.heap.size W0} {v : Value}
    (h : Calls P f args p.w fun e w' => e = .returned v ∧ Below p.w.heap.size p.w w') : Calls P f args p.w fun e w'' => e = .returned v ∧ ∃ p' : Later W0.heap.size W0, w'' = p'.w :=
  h.mono fun _ _ ⟨he, hb⟩ => ⟨he, ⟨_, p.h.trans (hb.mono p.h.size)⟩, rfl⟩
theorem mixedOn : Tryd.prog.follows .mixedOrders = true := by kernel_rfl
theorem own_pair1 (W : World) (o1 o2 : Obj) : ((W.alloc o1).alloc o2).heap[W.heap.size]? = some o1 := by
  have h1 : (W.alloc o1).heap[W.heap.size]? = some o1 := heap_alloc_new W o1
  rw [Below.heap_alloc _ _ _ (by simp)]
  exact h1
theorem own_pair2 (W : World) (o1 o2 : Obj) : ((W.alloc o1).alloc o2).heap[W.heap.size + 1]? = some o2 := by
  have h1 := heap_alloc_new (W.alloc o1) o2
  rwa [show (W.alloc o1).heap.size = W.heap.size + 1 by simp] at h1
theorem four_cells {W : World} {blk : Nat} {a b c d : Value} {t : TypeId} (h : W.heap[blk]? = some (.cells #[a, b, c, d] t)) :
    W.cell? ⟨blk, 0, none⟩ = some a ∧ W.cell? ⟨blk, 1, none⟩ = some b ∧ W.cell? ⟨blk, 2, none⟩ = some c ∧ W.cell? ⟨blk, 3, none⟩ = some d := by
  simp [World.cell?, h]
theorem begin_show : showP ⟨5, [34], 0, 0⟩ = ([34, 92, 34, 34], 0) := by kernel_rfl
theorem begin_chk : V.chkV ⟨0, false, 1, ⟨#[]⟩⟩ = 5 := by decide +kernel
theorem below_iter (w : World) (s : ByteArray) (pos : Nat) : Below w.heap.size w (w.iter s pos) := (Below.refl _ _).alloc (Nat.le_refl _) _
set_option maxRecDepth 100000 in
set_option maxHeartbeats 4000000 in
theorem begins_any (w : World) (hG : Glob2 w) (hT : Lib.Utf8Tabs 0 1 w) : Calls Tryd.prog 13 #[] w fun e w' => e = .returned (.bool true) ∧ Below w.heap.size w w' := by
  have C1 : Hid (∀ W, Below w.heap.size w W → Calls Tryd.prog 10 #[.agg #[.int .u8 5, .string ⟨#[34]⟩, .int .i64 0, .int .i64 0]] W fun e w' => e = .returned (.tuple #[.string ⟨#[34, 92, 34, 34]⟩, .int .i64 0]) ∧ Below W.heap.size W w') := fun W h => by
    have c := show_any ⟨5, [34], 0, 0⟩ W (by simp) (by simp) (by simp) (hG.below h)
    rw [begin_show] at c
    exact c
  have hrc : Lib.runeCount ⟨#[195, 169]⟩ = 1 := by decide +kernel
  have C2 : Hid (∀ W, Below w.heap.size w W → Calls Tryd.prog 22 #[.string ⟨#[195, 169]⟩] W fun e w' => e = .returned (.int .i64 1) ∧ Below W.heap.size W w') := fun W h => by
    have c := V.runes_any ⟨#[195, 169]⟩ W (by decide)
    rw [hrc] at c
    refine c.mono ?_
    rintro e w' ⟨rfl, pos, rfl⟩
    exact ⟨rfl, below_iter _ _ _⟩
  have C3 : Hid (∀ W, Below w.heap.size w W → Calls Tryd.prog 14 #[.agg #[.int .u8 0, .bool false, .int .i64 1, .string ⟨#[]⟩]] W fun e w' => e = .returned (.int .i64 5) ∧ Below W.heap.size W w') := fun W h => by
    have c := V.check_any ⟨0, false, 1, ⟨#[]⟩⟩ W (by decide) (Utf8Tabs_below hT h)
    rw [begin_chk] at c
    exact c
  clear hG hT hrc
  go_enter Tryd.func13, Tryd.ntmps13
  go_wp2_with fail
  refine (C1.out _ (Below.refl _ _)).mono ?_
  rintro e w1 ⟨rfl, hb1⟩
  have HB1 : Hid (Below w.heap.size w w1) := hb1
  clear hb1 C1
  go_wp2_with fail
  refine (C2.out _ HB1.out).mono ?_
  rintro e w2 ⟨rfl, hb2⟩
  have HB2 : Hid (Below w.heap.size w w2) := HB1.out.trans (hb2.mono HB1.out.size)
  clear hb2 C2
  go_wp2_with fail
  refine (C3.out _ HB2.out).mono ?_
  rintro e w3 ⟨rfl, hb3⟩
  have HB3 : Hid (Below w.heap.size w w3) := HB2.out.trans (hb3.mono HB2.out.size)
  clear hb3 C3
  go_wp2
  go_ret
  exact ⟨rfl, HB3.out⟩
set_option maxRecDepth 100000 in
set_option maxHeartbeats 8000000 in
theorem top_core (a b : ByteArray) (ha : a.size ≤ 9223372036854775807) (hb : b.size ≤ 9223372036854775807) (w : World) (hG : Glob2 w) (hT : Lib.Utf8Tabs 0 1 w) :
    Calls Tryd.prog 8 #[.string a, .string b] w fun e w' => e = .returned (.bool true) ∧ Below w.heap.size w w' := by
  have BG : Hid (Calls Tryd.prog 13 #[] w fun e w' => e = .returned (.bool true) ∧ Below w.heap.size w w') := begins_any w hG hT
  have hsa : ∀ s : ByteArray, (⟨s.data.toList.toArray⟩ : ByteArray) = s := fun s => by simp
  have SH : ∀ (s : ByteArray), s.size ≤ 9223372036854775807 → ∀ W, Below w.heap.size w W → Calls Tryd.prog 10 #[.agg #[.int .u8 5, .string s, .int .i64 0, .int .i64 0]] W fun e w' => e = .returned (.tuple #[.string ⟨(showP ⟨5, s.data.toList, 0, 0⟩).1.toArray⟩, .int .i64 (showP ⟨5, s.data.toList, 0, 0⟩).2]) ∧ Below W.heap.size W w' := fun s hs W h => by
    have := show_any ⟨5, s.data.toList, 0, 0⟩ W (by simp only [← Lib.size_eq]; omega) (by simp) (by simp) (hG.below h)
    simp only [Tok.v, hsa] at this
    exact this
  have CK : ∀ (s : ByteArray), s.size ≤ 9223372036854775807 → ∀ W, Below w.heap.size w W → Calls Tryd.prog 14 #[.agg #[.int .u8 3, .bool false, .int .i64 0, .string s]] W fun e w' => e = .returned (.int .i64 (V.chkV (txt s))) ∧ Below W.heap.size W w' := fun s hs W h => V.check_any (txt s) W hs (Utf8Tabs_below hT h)
  have CM : ∀ (s t : ByteArray) W, Below w.heap.size w W → Calls Tryd.prog 15 #[.agg #[.int .u8 3, .bool false, .int .i64 0, .string s], .agg #[.int .u8 3, .bool false, .int .i64 0, .string t]] W fun e w' => e = .returned (.int .i64 (V.cmpV (txt s) (txt t))) ∧ Below W.heap.size W w' := fun s t W h => V.compare_core 3 3 false false 0 0 s t W (Utf8Tabs_below hT h)
  have HA : ∀ (s : ByteArray), s.size ≤ 9223372036854775807 → ∀ W, Calls Tryd.prog 16 #[.agg #[.int .u8 3, .bool false, .int .i64 0, .string s]] W fun e w' => e = .returned (.int .u64 (V.hashV (txt s))) ∧ Below W.heap.size W w' := fun s hs W => V.hash_core 3 false 0 s W (by omega) (by omega) hs
  have s1 := SH a ha
  have s2 := SH b hb
  have k1 := CK a ha
  have k2 := CK b hb
  obtain ⟨c1, hc1⟩ : ∃ c, V.chkV (txt a) = c := ⟨_, rfl⟩
  obtain ⟨c2, hc2⟩ : ∃ c, V.chkV (txt b) = c := ⟨_, rfl⟩
  rw [hc1] at k1
  rw [hc2] at k2
  have K1 : Hid (∀ W, Below w.heap.size w W → Calls Tryd.prog 14 #[.agg #[.int .u8 3, .bool false, .int .i64 0, .string a]] W fun e w' => e = .returned (.int .i64 c1) ∧ Below W.heap.size W w') := k1
  have K2 : Hid (∀ W, Below w.heap.size w W → Calls Tryd.prog 14 #[.agg #[.int .u8 3, .bool false, .int .i64 0, .string b]] W fun e w' => e = .returned (.int .i64 c2) ∧ Below W.heap.size W w') := k2
  obtain ⟨⟨S1, e1⟩, hS1⟩ : ∃ P, showP ⟨5, a.data.toList, 0, 0⟩ = P := ⟨_, rfl⟩
  obtain ⟨⟨S2, e2⟩, hS2⟩ : ∃ P, showP ⟨5, b.data.toList, 0, 0⟩ = P := ⟨_, rfl⟩
  rw [hS1] at s1
  rw [hS2] at s2
  have W1 : Hid (∀ W, Below w.heap.size w W → Calls Tryd.prog 10 #[.agg #[.int .u8 5, .string a, .int .i64 0, .int .i64 0]] W fun e w' => e = .returned (.tuple #[.string ⟨S1.toArray⟩, .int .i64 e1]) ∧ Below W.heap.size W w') := s1
  have W2 : Hid (∀ W, Below w.heap.size w W → Calls Tryd.prog 10 #[.agg #[.int .u8 5, .string b, .int .i64 0, .int .i64 0]] W fun e w' => e = .returned (.tuple #[.string ⟨S2.toArray⟩, .int .i64 e2]) ∧ Below W.heap.size W w') := s2
  clear s1 s2 k1 k2 SH CK
  have HG : Hid (Glob2 w) := hG
  have HM : Hid (∀ (s t : ByteArray) W, Below w.heap.size w W → Calls Tryd.prog 15 #[.agg #[.int .u8 3, .bool false, .int .i64 0, .string s], .agg #[.int .u8 3, .bool false, .int .i64 0, .string t]] W fun e w' => e = .returned (.int .i64 (V.cmpV (txt s) (txt t))) ∧ Below W.heap.size W w') := CM
  have HH : Hid (∀ (s : ByteArray), s.size ≤ 9223372036854775807 → ∀ W, Calls Tryd.prog 16 #[.agg #[.int .u8 3, .bool false, .int .i64 0, .string s]] W fun e w' => e = .returned (.int .u64 (V.hashV (txt s))) ∧ Below W.heap.size W w') := HA
  have HC1 : Hid (V.chkV (txt a) = c1) := hc1
  have HC2 : Hid (V.chkV (txt b) = c2) := hc2
  have HS1 : Hid (showP ⟨5, a.data.toList, 0, 0⟩ = (S1, e1)) := hS1
  have HS2 : Hid (showP ⟨5, b.data.toList, 0, 0⟩ = (S2, e2)) := hS2
  have HSA : Hid (∀ s : ByteArray, (⟨s.data.toList.toArray⟩ : ByteArray) = s) := hsa
  clear hG hT CM HA hc1 hc2 hS1 hS2 hsa
  go_enter Tryd.func8, Tryd.ntmps8
  go_wp2_with fail
  refine BG.out.mono ?_
  rintro e w1 ⟨rfl, hb1⟩
  have HB1 : Hid (Below w.heap.size w w1) := hb1
  clear hb1 BG
  go_wp2_with fail
  obtain ⟨W0, hW0⟩ : ∃ W0, (w1.alloc (.cells #[.int .u8 3, .bool false, .int .i64 0, .string a] 40)).alloc (.cells #[.int .u8 3, .bool false, .int .i64 0, .string b] 40) = W0 := ⟨_, rfl⟩
  have hbe : Below w1.heap.size w1 W0 := by rw [← hW0]; exact V.below_two _ _
  have q1 : W0.heap[w1.heap.size]? = some (.cells #[.int .u8 3, .bool false, .int .i64 0, .string a] 40) := by rw [← hW0]; simp only [own_pair1]
  have q2 : W0.heap[w1.heap.size + 1]? = some (.cells #[.int .u8 3, .bool false, .int .i64 0, .string b] 40) := by rw [← hW0]; simp only [own_pair2]
  have hz0 : W0.heap.size = w1.heap.size + 1 + 1 := by rw [← hW0]; simp
  rw [hW0]
  clear hW0
  have HB0 : Hid (Below w.heap.size w W0) := HB1.out.trans (hbe.mono HB1.out.size)
  refine (W1.out _ HB0.out).mono ?_
  rintro e w2 ⟨rfl, hb2⟩
  have HB2 : Hid (Below w.heap.size w w2) := HB0.out.trans (hb2.mono HB0.out.size)
  have hs2 := hb2.size
  have q1' : w2.heap[w1.heap.size]? = some (.cells #[.int .u8 3, .bool false, .int .i64 0, .string a] 40) := by rw [hb2.block _ (by omega)]; exact q1
  have q2' : w2.heap[w1.heap.size + 1]? = some (.cells #[.int .u8 3, .bool false, .int .i64 0, .string b] 40) := by rw [hb2.block _ (by omega)]; exact q2
  have Q1 : Hid (w2.heap[w1.heap.size]? = some (.cells #[.int .u8 3, .bool false, .int .i64 0, .string a] 40)) := q1'
  have Q2 : Hid (w2.heap[w1.heap.size + 1]? = some (.cells #[.int .u8 3, .bool false, .int .i64 0, .string b] 40)) := q2'
  have HZ2 : Hid (w1.heap.size + 2 ≤ w2.heap.size) := by show _ ≤ _; omega
  clear hb2 q1 q2 q1' q2' hbe hz0 hs2 W1
  go_wp2_with fail
  refine (W2.out _ HB2.out).mono ?_
  rintro e w3 ⟨rfl, hb3⟩
  have HB3 : Hid (Below w.heap.size w w3) := HB2.out.trans (hb3.mono HB2.out.size)
  have q1 : w3.heap[w1.heap.size]? = some (.cells #[.int .u8 3, .bool false, .int .i64 0, .string a] 40) := by rw [hb3.block _ (by have := HZ2.out; omega)]; exact Q1.out
  have q2 : w3.heap[w1.heap.size + 1]? = some (.cells #[.int .u8 3, .bool false, .int .i64 0, .string b] 40) := by rw [hb3.block _ (by have := HZ2.out; omega)]; exact Q2.out
  have hz3 : w1.heap.size + 2 ≤ w3.heap.size := by have := HZ2.out; have := hb3.size; omega
  obtain ⟨x0, x1, x2, x3⟩ := four_cells q1
  obtain ⟨y0, y1, y2, y3⟩ := four_cells q2
  clear hb3 Q1 Q2 HZ2 W2 HB2 HB0 HB1
  go_wp2_with fail
  refine (K1.out _ HB3.out).mono ?_
  rintro e w4 ⟨rfl, hb4⟩
  have HB4 : Hid (Below w.heap.size w w4) := HB3.out.trans (hb4.mono HB3.out.size)
  have q3 : w4.heap[w1.heap.size]? = some (.cells #[.int .u8 3, .bool false, .int .i64 0, .string a] 40) := by rw [hb4.block _ (by omega)]; exact q1
  have q4 : w4.heap[w1.heap.size + 1]? = some (.cells #[.int .u8 3, .bool false, .int .i64 0, .string b] 40) := by rw [hb4.block _ (by omega)]; exact q2
  have hz4 : w1.heap.size + 2 ≤ w4.heap.size := by have := hb4.size; omega
  clear hb4 q1 q2 x0 x1 x2 x3 y0 y1 y2 y3 HB3 K1 hz3
  by_cases hz1 : c1 = 0
  · subst hz1
    obtain ⟨va, la⟩ := right_of a HC1.out
    have hr1 := HS1.out
    rw [right_show _ va la] at hr1
    simp only [Prod.mk.injEq] at hr1
    obtain ⟨rfl, rfl⟩ := hr1
    obtain ⟨y0, y1, y2, y3⟩ := four_cells q4
    have VA : Hid (Lib.validD a.data.toList = true ∧ a.data.toList.length ≤ 256) := ⟨va, la⟩
    clear va la HS1 HC1
    go_wp2_with fail
    refine (K2.out _ HB4.out).mono ?_
    rintro e w5 ⟨rfl, hb5⟩
    have HB5 : Hid (Below w.heap.size w w5) := HB4.out.trans (hb5.mono HB4.out.size)
    have q5 : w5.heap[w1.heap.size]? = some (.cells #[.int .u8 3, .bool false, .int .i64 0, .string a] 40) := by rw [hb5.block _ (by omega)]; exact q3
    have q6 : w5.heap[w1.heap.size + 1]? = some (.cells #[.int .u8 3, .bool false, .int .i64 0, .string b] 40) := by rw [hb5.block _ (by omega)]; exact q4
    have hz5 : w1.heap.size + 2 ≤ w5.heap.size := by have := hb5.size; omega
    clear hb5 q3 q4 y0 y1 y2 y3 HB4 K2 hz4
    by_cases hz2 : c2 = 0
    · subst hz2
      obtain ⟨vb, lb⟩ := right_of b HC2.out
      have hr2 := HS2.out
      rw [right_show _ vb lb] at hr2
      simp only [Prod.mk.injEq] at hr2
      obtain ⟨rfl, rfl⟩ := hr2
      have VB : Hid (Lib.validD b.data.toList = true ∧ b.data.toList.length ≤ 256) := ⟨vb, lb⟩
      have hqa := quote_len a.data.toList
      have hqb := quote_len b.data.toList
      have hla := VA.out.2
      have la2 : (quoteP a.data.toList).length ≤ 2000 := by omega
      have lb2 : (quoteP b.data.toList).length ≤ 2000 := by omega
      clear vb lb HS2 HC2 hqa hqb hla
      obtain ⟨QA, hQA⟩ : ∃ q, quoteP a.data.toList = q := ⟨_, rfl⟩
      obtain ⟨QB, hQB⟩ : ∃ q, quoteP b.data.toList = q := ⟨_, rfl⟩
      rw [hQA] at la2 ⊢
      rw [hQB] at lb2 ⊢
      have HQA : Hid (quoteP a.data.toList = QA) := hQA
      have HQB : Hid (quoteP b.data.toList = QB) := hQB
      have sA : (⟨QA.toArray⟩ : ByteArray).size = QA.length := by show QA.toArray.size = _; simp
      have sB : (⟨QB.toArray⟩ : ByteArray).size = QB.length := by show QB.toArray.size = _; simp
      have CL : Hid (∀ W, Below w.heap.size w W → Calls Tryd.prog 11 #[.string (⟨QA.toArray⟩ ++ ⟨QB.toArray⟩)] W fun e w' => ∃ v, e = .returned (.tuple #[v, .int .i64 (lexP (QA ++ QB)).2.1, .int .i64 (lexP (QA ++ QB)).2.2]) ∧ LexOut W w' v (lexP (QA ++ QB)).1 ∧ Below W.heap.size W w') := fun W h => by
        have := lex_any (⟨QA.toArray⟩ ++ ⟨QB.toArray⟩) W (by rw [ByteArray.size_append, sA, sB]; omega) (HG.out.below h).1
        rw [show ((⟨QA.toArray⟩ : ByteArray) ++ ⟨QB.toArray⟩).data.toList = QA ++ QB by simp] at this
        exact this
      clear hQA hQB
      obtain ⟨SA, hSA⟩ : ∃ s, (⟨QA.toArray⟩ : ByteArray) = s := ⟨_, rfl⟩
      obtain ⟨SB, hSB⟩ : ∃ s, (⟨QB.toArray⟩ : ByteArray) = s := ⟨_, rfl⟩
      rw [hSA] at sA CL ⊢
      rw [hSB] at sB CL ⊢
      have HSX : Hid ((⟨QA.toArray⟩ : ByteArray) = SA) := hSA
      have HSY : Hid ((⟨QB.toArray⟩ : ByteArray) = SB) := hSB
      have zA : SA.size ≤ 2000 := by omega
      have zB : SB.size ≤ 2000 := by omega
      have HLA : Hid (SA.size = QA.length ∧ SB.size = QB.length) := ⟨sA, sB⟩
      clear hSA hSB sA sB la2 lb2
      by_cases hl : 2048 < (QA ++ QB).length
      · have hP : lexP (QA ++ QB) = ([], 4, 0) := by unfold lexP; rw [if_pos hl]
        rw [hP] at CL
        have hl2 : (2048 : Int) < (SA.size : Int) + (SB.size : Int) := by have := HLA.out; rw [List.length_append] at hl; omega
        clear hP hl VA VB HQA HQB HM HH HSA HG HLA HSX HSY
        go_wp2_with fail
        refine (CL.out _ HB5.out).mono ?_
        rintro e w6 ⟨v, rfl, ho, hb6⟩
        obtain ⟨pz, cz, rfl⟩ := own_slice ho
        have HB6 : Hid (Below w.heap.size w w6) := HB5.out.trans (hb6.mono HB5.out.size)
        clear ho hb6 CL HB5
        go_wp2
        go_ret
        exact ⟨rfl, HB6.out⟩
      · obtain ⟨pp, hP⟩ := lex_two a.data.toList b.data.toList VA.out.1 VB.out.1 VA.out.2 VB.out.2 (by rw [HQA.out, HQB.out]; omega)
        rw [HQA.out, HQB.out] at hP
        rw [hP] at CL
        clear hP hl
        go_wp2_with fail
        refine (CL.out _ HB5.out).mono ?_
        rintro e w6 ⟨v, rfl, ho, hb6⟩
        obtain ⟨g, cap, rfl, hg, _, hc⟩ := own_cells ho (by simp)
        have k1 : w6.cell? ⟨g, 1, none⟩ = some (.string a) := by rw [hc 1 (by simp)]; simp [flatK]
        have k5 : w6.cell? ⟨g, 5, none⟩ = some (.string b) := by rw [hc 5 (by simp)]; simp [flatK]
        have HB6 : Hid (Below w.heap.size w w6) := HB5.out.trans (hb6.mono HB5.out.size)
        have q7 : w6.heap[w1.heap.size]? = some (.cells #[.int .u8 3, .bool false, .int .i64 0, .string a] 40) := by rw [hb6.block _ (by omega)]; exact q5
        have q8 : w6.heap[w1.heap.size + 1]? = some (.cells #[.int .u8 3, .bool false, .int .i64 0, .string b] 40) := by rw [hb6.block _ (by omega)]; exact q6
        have hz6 : w1.heap.size + 2 ≤ w6.heap.size := by have := hb6.size; omega
        have hlen : ([⟨5, a.data.toList, 0, 0⟩, ⟨5, b.data.toList, 0, (pp : Int)⟩] : List Tok).length = 2 := rfl
        rw [hlen]
        clear hlen ho hb6 CL HB5 hc q5 q6 hz5
        go_wp2_with fail
        obtain ⟨m, hm⟩ : ∃ m, V.cmpV (txt a) (txt b) = m := ⟨_, rfl⟩
        obtain ⟨m1, hm1⟩ : ∃ m, V.hashV (txt a) = m := ⟨_, rfl⟩
        obtain ⟨m2, hm2⟩ : ∃ m, V.hashV (txt b) = m := ⟨_, rfl⟩
        have HZ : Hid (m = 0 ↔ a = b) := by show _ ↔ _; rw [← hm]; exact cmp_zero a b VA.out.1 VB.out.1
        have HE : Hid (SA.toList = SB.toList ↔ a = b) := by
          show _ ↔ _
          rw [Lib.toList_data, Lib.toList_data, ← HSX.out, ← HSY.out, ← HQA.out, ← HQB.out]
          constructor
          · intro h
            have h' : quoteP a.data.toList = quoteP b.data.toList := by simpa using h
            have := quote_inj _ _ VA.out.1 VB.out.1 VA.out.2 VB.out.2 h'
            exact ByteArray.ext (Array.ext' this)
          · rintro rfl; rfl
        have HMV : Hid (V.cmpV (txt a) (txt b) = m) := hm
        have HV1 : Hid (V.hashV (txt a) = m1) := hm1
        have HV2 : Hid (V.hashV (txt b) = m2) := hm2
        clear hm hm1 hm2 HSX HSY HQA HQB VA VB HLA HSA HG
        have n1 := World.new_ne w6 ⟨g, 1, none⟩ k1
        have n5 := World.new_ne w6 ⟨g, 5, none⟩ k5
        go_region_held3 (fun w' => w'.cell? ⟨g, 1, none⟩ = some (.string a) ∧ w'.cell? ⟨g, 5, none⟩ = some (.string b))
          (first | exact ⟨k1, k5⟩ | go_keep) (fail)
        all_goals
          first
            | (obtain ⟨W7, hW7⟩ : ∃ W, ((w6.alloc (.cells #[.int .u8 3, .bool false, .int .i64 0, .string a] 40)).alloc (.cells #[.int .u8 3, .bool false, .int .i64 0, .string b] 40)).drew = W := ⟨_, rfl⟩
               rw [hW7]
               have hp : W7.heap[w6.heap.size]? = some (.cells #[.int .u8 3, .bool false, .int .i64 0, .string a] 40) := by rw [← hW7]; exact own_pair1 _ _ _
               have hq : W7.heap[w6.heap.size + 1]? = some (.cells #[.int .u8 3, .bool false, .int .i64 0, .string b] 40) := by rw [← hW7]; exact own_pair2 _ _ _
               have hbe : Below w6.heap.size w6 W7 := by rw [← hW7]; exact (V.below_two _ _).drew
               have hz7 : W7.heap.size = w6.heap.size + 1 + 1 := by rw [← hW7]; show ((w6.alloc _).alloc _).heap.size = _; simp
               clear hW7)
            | (obtain ⟨W7, hW7⟩ : ∃ W, ((w6.alloc (.cells #[.int .u8 3, .bool false, .int .i64 0, .string b] 40)).alloc (.cells #[.int .u8 3, .bool false, .int .i64 0, .string a] 40)).drew = W := ⟨_, rfl⟩
               rw [hW7]
               have hp : W7.heap[w6.heap.size + 1]? = some (.cells #[.int .u8 3, .bool false, .int .i64 0, .string a] 40) := by rw [← hW7]; exact own_pair2 _ _ _
               have hq : W7.heap[w6.heap.size]? = some (.cells #[.int .u8 3, .bool false, .int .i64 0, .string b] 40) := by rw [← hW7]; exact own_pair1 _ _ _
               have hbe : Below w6.heap.size w6 W7 := by rw [← hW7]; exact (V.below_two _ _).drew
               have hz7 : W7.heap.size = w6.heap.size + 1 + 1 := by rw [← hW7]; show ((w6.alloc _).alloc _).heap.size = _; simp
               clear hW7)
          have q9 : W7.heap[w1.heap.size]? = some (.cells #[.int .u8 3, .bool false, .int .i64 0, .string a] 40) := by rw [hbe.block _ (by omega)]; exact q7
          have qa : W7.heap[w1.heap.size + 1]? = some (.cells #[.int .u8 3, .bool false, .int .i64 0, .string b] 40) := by rw [hbe.block _ (by omega)]; exact q8
          obtain ⟨x0, x1, x2, x3⟩ := four_cells q9
          obtain ⟨y0, y1, y2, y3⟩ := four_cells qa
          obtain ⟨u0, u1, u2, u3⟩ := four_cells hp
          obtain ⟨v0, v1, v2, v3⟩ := four_cells hq
          have px0 : ∀ p : Later W7.heap.size W7, _ := fun p => (p.h.cell (by simp; omega)).trans x0
          have px1 : ∀ p : Later W7.heap.size W7, _ := fun p => (p.h.cell (by simp; omega)).trans x1
          have px2 : ∀ p : Later W7.heap.size W7, _ := fun p => (p.h.cell (by simp; omega)).trans x2
          have px3 : ∀ p : Later W7.heap.size W7, _ := fun p => (p.h.cell (by simp; omega)).trans x3
          have py0 : ∀ p : Later W7.heap.size W7, _ := fun p => (p.h.cell (by simp; omega)).trans y0
          have py1 : ∀ p : Later W7.heap.size W7, _ := fun p => (p.h.cell (by simp; omega)).trans y1
          have py2 : ∀ p : Later W7.heap.size W7, _ := fun p => (p.h.cell (by simp; omega)).trans y2
          have py3 : ∀ p : Later W7.heap.size W7, _ := fun p => (p.h.cell (by simp; omega)).trans y3
          have pu0 : ∀ p : Later W7.heap.size W7, _ := fun p => (p.h.cell (by simp; omega)).trans u0
          have pu1 : ∀ p : Later W7.heap.size W7, _ := fun p => (p.h.cell (by simp; omega)).trans u1
          have pu2 : ∀ p : Later W7.heap.size W7, _ := fun p => (p.h.cell (by simp; omega)).trans u2
          have pu3 : ∀ p : Later W7.heap.size W7, _ := fun p => (p.h.cell (by simp; omega)).trans u3
          have pv0 : ∀ p : Later W7.heap.size W7, _ := fun p => (p.h.cell (by simp; omega)).trans v0
          have pv1 : ∀ p : Later W7.heap.size W7, _ := fun p => (p.h.cell (by simp; omega)).trans v1
          have pv2 : ∀ p : Later W7.heap.size W7, _ := fun p => (p.h.cell (by simp; omega)).trans v2
          have pv3 : ∀ p : Later W7.heap.size W7, _ := fun p => (p.h.cell (by simp; omega)).trans v3
          have HB7 : Hid (Below w.heap.size w W7) := HB6.out.trans (hbe.mono HB6.out.size)
          have MM : Hid (∀ p : Later W7.heap.size W7, Calls Tryd.prog 15 #[.agg #[.int .u8 3, .bool false, .int .i64 0, .string a], .agg #[.int .u8 3, .bool false, .int .i64 0, .string b]] p.w fun e w' => e = .returned (.int .i64 m) ∧ Below p.w.heap.size p.w w') := fun p => by rw [← HMV.out]; exact HM.out a b p.w (HB7.out.trans (p.h.mono HB7.out.size))
          have H1 : Hid (∀ p : Later W7.heap.size W7, Calls Tryd.prog 16 #[.agg #[.int .u8 3, .bool false, .int .i64 0, .string a]] p.w fun e w' => e = .returned (.int .u64 m1) ∧ Below p.w.heap.size p.w w') := fun p => by rw [← HV1.out]; exact HH.out a ha p.w
          have H2 : Hid (∀ p : Later W7.heap.size W7, Calls Tryd.prog 16 #[.agg #[.int .u8 3, .bool false, .int .i64 0, .string b]] p.w fun e w' => e = .returned (.int .u64 m2) ∧ Below p.w.heap.size p.w w') := fun p => by rw [← HV2.out]; exact HH.out b hb p.w
          haveI : Inhabited (Later W7.heap.size W7) := ⟨⟨W7, Below.refl _ _⟩⟩
          clear hp hq hbe hz7 q9 qa x0 x1 x2 x3 y0 y1 y2 y3 u0 u1 u2 u3 v0 v1 v2 v3 k1 k5 n1 n5 q7 q8 HB6 HM HH HMV HV1 HV2 hz6 hg
          go_upto_region 12 with fail
          by_cases hab : a = b
          · have hm0 : m = 0 := HZ.out.2 hab
            have hse : (SA.toList == SB.toList) = true := beq_iff_eq.2 (HE.out.2 hab)
            subst hm0
            clear HZ HE hab
            refine wp_region_later mixedOn (by kernel_rfl) ?_
            repeat (go_big_quiet_step ((first | (go_at_call 15; exact calls_later (MM.out _)) | (go_at_call_of 16 (Value.agg #[.int .u8 3, .bool false, .int .i64 0, .string a]); exact calls_later (H1.out _)) | (go_at_call_of 16 (Value.agg #[.int .u8 3, .bool false, .int .i64 0, .string b]); exact calls_later (H2.out _)))))
            refine wpQuiet_nil ?_
            intro _ hw'
            obtain ⟨⟨wq, hwq⟩, hw''⟩ := hw'
            subst hw''
            go_wp2_with fail
            go_ret
            exact ⟨rfl, HB7.out.trans (hwq.mono HB7.out.size)⟩
          · have hm0 : (m == 0) = false := beq_eq_false_iff_ne.2 (fun h => hab (HZ.out.1 h))
            have hse : (SA.toList == SB.toList) = false := beq_eq_false_iff_ne.2 (fun h => hab (HE.out.1 h))
            clear HZ HE hab
            refine wp_region_later mixedOn (by kernel_rfl) ?_
            repeat (go_big_quiet_step ((first | (go_at_call 15; exact calls_later (MM.out _)) | (go_at_call_of 16 (Value.agg #[.int .u8 3, .bool false, .int .i64 0, .string a]); exact calls_later (H1.out _)) | (go_at_call_of 16 (Value.agg #[.int .u8 3, .bool false, .int .i64 0, .string b]); exact calls_later (H2.out _)))))
            refine wpQuiet_nil ?_
            intro _ hw'
            obtain ⟨⟨wq, hwq⟩, hw''⟩ := hw'
            subst hw''
            go_wp2_with fail
            go_ret
            exact ⟨rfl, HB7.out.trans (hwq.mono HB7.out.size)⟩
    · have he2 : e2 ≠ 0 := by have := wrong_of b (by rw [HC2.out]; exact hz2); rw [HS2.out] at this; exact this
      have t1 : (c2 != 0) = true := bne_iff_ne.2 hz2
      have t2 : (e2 != 0) = true := bne_iff_ne.2 he2
      clear HC2 HS2 HM HH HSA HG hz2 he2 VA q5 q6
      go_wp2
      go_ret
      exact ⟨rfl, HB5.out⟩
  · have he1 : e1 ≠ 0 := by have := wrong_of a (by rw [HC1.out]; exact hz1); rw [HS1.out] at this; exact this
    have t1 : (c1 != 0) = true := bne_iff_ne.2 hz1
    have t2 : (e1 != 0) = true := bne_iff_ne.2 he1
    clear HC1 HC2 HS1 HS2 HM HH HSA HG hz1 he1 K2 q3 q4
    go_wp2
    go_ret
    exact ⟨rfl, HB4.out⟩
end Go.Proofs.YteldenbmplcdoaaDoor
