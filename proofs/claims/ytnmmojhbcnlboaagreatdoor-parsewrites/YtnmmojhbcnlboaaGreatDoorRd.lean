/- How a step and an expression are written. -/
import Derived.Test.YtnmmojhbcnlboaaGreatDoorRc
namespace Go.Proofs.YtnmmojhbcnlboaaGreatDoor
open Go.Shelf Go.RowKit Go.Lib Go.Sort
set_option linter.unusedVariables false
set_option linter.unusedSimpArgs false
attribute [local go_sem ↓] Go.wp_at_zero Go.wp_at_succ
def writeStepP (x : Stp) (parts : List (List UInt8)) : List UInt8 :=
  if x.k = 4 then (showP ⟨4, [], x.n, 0⟩).1 else if x.k = 5 then (showP ⟨5, x.t, 0, 0⟩).1 else if x.k = 6 then x.t else if parts = [] then stepTextP x.k else bracketsP (stepTextP x.k) parts
theorem textP_len : ∀ (l : List (List UInt8 × Nat)) (k m : Nat), (∀ x ∈ l, x.1.length ≤ m) → (textP l k).length ≤ m
  | [], k, m, h => Nat.zero_le _
  | x :: l, k, m, h => by
    unfold textP
    split
    · exact h x (List.mem_cons_self ..)
    · exact textP_len l k m fun y hy => h y (List.mem_cons_of_mem _ hy)
theorem stepTextP_len (k : Nat) : (stepTextP k).length ≤ 10 := textP_len _ _ _ (by decide)
theorem aggTextP_len (k : Nat) : (aggTextP k).length ≤ 10 := textP_len _ _ _ (by decide)
theorem showP_len (t : Tok) (hn : I64 t.n) : (showP t).1.length ≤ 2000 := by
  unfold showP
  split
  · simp
  · rename_i h
    split
    · exact writeP_len t (by omega) hn.1 hn.2
    · simp
theorem partsL_len : ∀ l : List (List UInt8), (partsL l).length = l.flatten.length + l.length
  | [] => rfl
  | x :: l => by
    have := partsL_len l
    simp only [partsL, List.flatMap_cons, List.length_append, List.length_cons, List.flatten_cons] at this ⊢
    omega
theorem bracketsP_len (h : List UInt8) (l : List (List UInt8)) : (bracketsP h l).length = h.length + l.flatten.length + l.length + 2 := by
  unfold bracketsP
  simp only [List.cons_append, List.length_cons, List.length_append, List.length_singleton, partsL_len]
  simp
  omega
theorem writeStepP_len (x : Stp) (parts : List (List UInt8)) (hx : okP x) (hp : parts.length ≤ 2) : (writeStepP x parts).length ≤ 100100 + parts.flatten.length := by
  have i0 : I64 0 := ⟨by omega, by omega⟩
  have h1 := stepTextP_len x.k
  unfold writeStepP
  split
  · have := showP_len ⟨4, [], x.n, 0⟩ hx.2.1
    omega
  · split
    · have := showP_len ⟨5, x.t, 0, 0⟩ i0
      omega
    · split
      · have := hx.2.2
        omega
      · split
        · omega
        · rw [bracketsP_len]
          omega
set_option maxRecDepth 100000 in
set_option maxHeartbeats 4000000 in
theorem writeStep_any (K : Nat → Prop) (x : Stp) (q : Option Addr) (c : Nat) (parts : List (List UInt8)) (w : World) (hk : okP x) (hl : ListIs rTxt 1 16 K w (.slice q parts.length c) parts) (hK : ∀ b, K b → b < w.heap.size) (hn : parts.length ≤ 2) (hG : GW w) (hG2 : Glob2 w) :
    Calls Tryz.prog 34 #[x.v, .slice q parts.length c] w fun e w' => e = .returned (.string ⟨(writeStepP x parts).toArray⟩) ∧ Below w.heap.size w w' := by
  obtain ⟨s, hs⟩ : ∃ s : ByteArray, (⟨x.t.toArray⟩ : ByteArray) = s := ⟨_, rfl⟩
  have hv : x.v = .agg #[.int .u8 (x.k : Int), .string s, .int .i64 x.n] := by rw [← hs]; rfl
  rw [hv]
  obtain ⟨W0, hW0⟩ : ∃ W0, w.alloc (.cells #[.int .u8 (x.k : Int), .string s, .int .i64 x.n] 29) = W0 := ⟨_, rfl⟩
  have hb0 : Below w.heap.size w W0 := by rw [← hW0]; exact below_alloc _ _
  have hg0 : W0.heap[w.heap.size]? = some (.cells #[.int .u8 (x.k : Int), .string s, .int .i64 x.n] 29 (0, 0)) := by rw [← hW0]; exact heap_alloc_new w _
  have hl0 : w.heap.size < W0.heap.size := (Array.getElem?_eq_some_iff.1 hg0).1
  have c0 := cell_of_row (k := 0) (v := .int .u8 (x.k : Int)) hg0 rfl
  have c1 := cell_of_row (k := 1) (v := .string s) hg0 rfl
  have c2 := cell_of_row (k := 2) (v := .int .i64 x.n) hg0 rfl
  have HB := hid hb0
  have HG0 := hid (hG.below hb0)
  have HG2 := hid (hG2.below hb0)
  have HX := hid hk
  have i0 : I64 0 := ⟨by omega, by omega⟩
  obtain ⟨R, hR⟩ : ∃ R, writeStepP x parts = R := ⟨_, rfl⟩
  have HR : Hid ((if x.k = 4 then (showP ⟨4, [], x.n, 0⟩).1 else if x.k = 5 then (showP ⟨5, x.t, 0, 0⟩).1 else if x.k = 6 then x.t else if parts = [] then stepTextP x.k else bracketsP (stepTextP x.k) parts) = R) := hR
  rw [hR]
  obtain ⟨k, hkk⟩ : ∃ k, x.k = k := ⟨_, rfl⟩
  rw [hkk] at hW0 c0 HR ⊢
  have hlist := hl.mono mTxt (K2 := K) (fun _ h => h) (kept_of hK hb0)
  have HKW : Hid (∀ b, K b → b < W0.heap.size) := fun b hb => Nat.lt_of_lt_of_le (hK b hb) hb0.size
  have HLI := hid hlist
  have hz := len_zero parts
  obtain ⟨m, hm⟩ : ∃ m, parts.length = m := ⟨_, rfl⟩
  have HM := hid hm
  have HZ : Hid (m = 0 ↔ parts = []) := by rw [hm] at hz; exact hz
  rw [hm] at hn ⊢
  have HS := hid hs
  clear hs hv hk hG hG2 hb0 hg0 hR hkk hlist hl hK hz hm
  by_cases h4 : k = 4
  · have y4 : ((k : Int) == 4) = true := by simp [h4]
    have C : Hid (Calls Tryz.prog 47 #[.agg #[.int .u8 4, .string ⟨#[]⟩, .int .i64 x.n, .int .i64 0]] W0 fun e w' => e = .returned (.string ⟨R.toArray⟩) ∧ Below W0.heap.size W0 w') := by have := token_any ⟨4, [], x.n, 0⟩ W0 (by simp) HX.out.2.1 HG2.out; have h2 := HR.out; rw [if_pos h4] at h2; rw [h2] at this; exact this
    clear h4 HR HG0 HG2 HX i0 HLI HKW HM HZ HS hl0
    go_enter Tryz.func34, Tryz.ntmps34
    go_wp2_with fail
    refine C.out.mono ?_
    rintro e w1 ⟨rfl, hb1⟩
    have HB1 : Hid (Below w.heap.size w w1) := HB.out.trans (hb1.mono HB.out.size)
    clear C hb1 hW0
    go_wp2_with fail
    go_ret
    exact ⟨rfl, HB1.out⟩
  · have y4 : ((k : Int) == 4) = false := beq_eq_false_iff_ne.2 (by omega)
    by_cases h5 : k = 5
    · have y5 : ((k : Int) == 5) = true := by simp [h5]
      have C : Hid (Calls Tryz.prog 47 #[.agg #[.int .u8 5, .string s, .int .i64 0, .int .i64 0]] W0 fun e w' => e = .returned (.string ⟨R.toArray⟩) ∧ Below W0.heap.size W0 w') := by have := token_any ⟨5, x.t, 0, 0⟩ W0 HX.out.2.2 i0 HG2.out; have h2 := HR.out; rw [if_neg h4, if_pos h5] at h2; rw [h2, show (⟨5, x.t, 0, 0⟩ : Tok).v = .agg #[.int .u8 5, .string s, .int .i64 0, .int .i64 0] by rw [← HS.out]; rfl] at this; exact this
      clear h4 h5 HR HG0 HG2 HX i0 HLI HKW HM HZ HS hl0
      go_enter Tryz.func34, Tryz.ntmps34
      go_wp2_with fail
      refine C.out.mono ?_
      rintro e w1 ⟨rfl, hb1⟩
      have HB1 : Hid (Below w.heap.size w w1) := HB.out.trans (hb1.mono HB.out.size)
      clear C hb1 hW0
      go_wp2_with fail
      go_ret
      exact ⟨rfl, HB1.out⟩
    · have y5 : ((k : Int) == 5) = false := beq_eq_false_iff_ne.2 (by omega)
      by_cases h6 : k = 6
      · have y6 : ((k : Int) == 6) = true := by simp [h6]
        have hsz : s.size ≤ 281474976710656 := by rw [← HS.out]; show x.t.toArray.size ≤ _; have := HX.out.2.2; simp; omega
        have C := hid (clone_any s W0 hsz)
        have HE : Hid ((⟨R.toArray⟩ : ByteArray) = s) := by have h2 := HR.out; rw [if_neg h4, if_neg h5, if_pos h6] at h2; show _ = _; rw [← h2, HS.out]
        clear h4 h5 h6 HR HG0 HG2 HX i0 HLI HKW HM HZ HS hsz hl0
        go_enter Tryz.func34, Tryz.ntmps34
        go_wp2_with fail
        refine C.out.mono ?_
        rintro e w1 ⟨rfl, hb1⟩
        have HB1 : Hid (Below w.heap.size w w1) := HB.out.trans (hb1.mono HB.out.size)
        clear C hb1 hW0
        go_wp2_with fail
        go_ret
        exact ⟨by rw [HE.out]; rfl, HB1.out⟩
      · have y6 : ((k : Int) == 6) = false := beq_eq_false_iff_ne.2 (by omega)
        have HR2 : Hid ((if parts = [] then stepTextP k else bracketsP (stepTextP k) parts) = R) := by have h2 := HR.out; rw [if_neg h4, if_neg h5, if_neg h6] at h2; exact h2
        have CS : Hid (Calls Tryz.prog 49 #[.int .u8 (k : Int)] W0 fun e w' => e = .returned (.string ⟨(stepTextP k).toArray⟩) ∧ Below W0.heap.size W0 w') := stepText_any k W0 HG0.out.1
        obtain ⟨A, hA⟩ : ∃ A : ByteArray, (⟨(stepTextP k).toArray⟩ : ByteArray) = A := ⟨_, rfl⟩
        have HA := hid hA
        rw [hA] at CS
        clear h4 h5 h6 HR HG2 HX i0 HS hA hl0
        by_cases hm0 : m = 0
        · have ym : ((m : Int) == 0) = true := by simp [hm0]
          have HE : Hid ((⟨R.toArray⟩ : ByteArray) = A) := by have h2 := HR2.out; rw [if_pos (HZ.out.1 hm0)] at h2; show _ = _; rw [← h2, HA.out]
          clear HR2 HZ hm0 HA HLI HKW HM HG0
          go_enter Tryz.func34, Tryz.ntmps34
          go_wp2_with fail
          refine CS.out.mono ?_
          rintro e w1 ⟨rfl, hb1⟩
          have HB1 : Hid (Below w.heap.size w w1) := HB.out.trans (hb1.mono HB.out.size)
          clear CS hb1 hW0
          go_wp2_with fail
          go_ret
          exact ⟨by rw [HE.out]; rfl, HB1.out⟩
        · have ym : ((m : Int) == 0) = false := beq_eq_false_iff_ne.2 (by omega)
          have HR3 : Hid (bracketsP (stepTextP k) parts = R) := by have h2 := HR2.out; rw [if_neg (fun h => hm0 (HZ.out.2 h))] at h2; exact h2
          have CB : Hid (∀ V, Below W0.heap.size W0 V → Calls Tryz.prog 15 #[.string A, .slice q m c] V fun e w' => e = .returned (.string ⟨R.toArray⟩) ∧ Below V.heap.size V w') := fun V hb => by
            have := brackets_any K (stepTextP k) q c parts V (HLI.out.mono mTxt (fun _ h => h) (kept_of HKW.out hb)) (fun b h => Nat.lt_of_lt_of_le (HKW.out b h) hb.size) (by rw [HM.out]; omega) (by have := stepTextP_len k; omega)
            rw [HA.out, HM.out, HR3.out] at this
            exact this
          clear HR2 HR3 HZ hm0 HA HLI HKW HM HG0
          go_enter Tryz.func34, Tryz.ntmps34
          go_wp2_with fail
          refine CS.out.mono ?_
          rintro e w1 ⟨rfl, hb1⟩
          have C2 := hid (CB.out w1 hb1)
          have HB1 : Hid (Below w.heap.size w w1) := HB.out.trans (hb1.mono HB.out.size)
          clear CS CB hb1 hW0
          go_wp2_with fail
          refine C2.out.mono ?_
          rintro e w2 ⟨rfl, hb2⟩
          have HB2 : Hid (Below w.heap.size w w2) := HB1.out.trans (hb2.mono HB1.out.size)
          clear C2 hb2
          go_wp2_with fail
          go_ret
          exact ⟨rfl, HB2.out⟩
end Go.Proofs.YtnmmojhbcnlboaaGreatDoor
