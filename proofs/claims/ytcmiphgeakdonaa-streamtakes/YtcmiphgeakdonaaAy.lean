/- What lives answers: the walk. -/
import Derived.Test.YtcmiphgeakdonaaAx
namespace Go.Proofs.Ytcmiphgeakdonaa
open Go.Shelf Go.RowKit Go.Lib Go.Sort
set_option linter.unusedVariables false
set_option linter.unusedSimpArgs false
attribute [local go_sem ↓] Go.wp_at_zero Go.wp_at_succ
theorem okL : okS sL := ⟨⟨by show (0:Nat) < _; omega, by show (0:Nat) < _; omega⟩, ⟨by show _ ≤ (0:Int); omega, by show (0:Int) ≤ _; omega⟩, ⟨by show _ ≤ (1:Int); omega, by show (1:Int) ≤ _; omega⟩, ⟨by show _ ≤ (0:Int); omega, by show (0:Int) ≤ _; omega⟩⟩
theorem cut_lives (w w1 : World) (hB : Below w.heap.size w w1) (hs1 : w.heap.size < w1.heap.size) (hc9 : ∀ j, j < 9 → w1.cell? ⟨w.heap.size, j, none⟩ = some (.slice none 0 0)) : Calls Try.prog 6 #[.agg #[.int .u64 0, .int .u64 0, .int .i64 0, .int .i64 1, .int .i64 0], .slice (some ⟨w.heap.size, 0, none⟩) 9 9] w1 fun e w' => ∃ q c, e = .returned (.tuple #[.agg #[.int .u64 0, .int .u64 0, .int .i64 0, .int .i64 1, .int .i64 0, .slice q 2 c, .int .u64 0], .int .i64 0]) ∧ rOut (From w1.heap.size w') w' [.int .u64 0, .int .u64 0, .int .i64 0, .int .i64 1, .int .i64 0, .slice q 2 c, .int .u64 0] oL ∧ Below w.heap.size w w' := by
  have hl : ListIs rRow 1 24 (fun b => b = w.heap.size) w1 (.slice (some ⟨w.heap.size, 0, none⟩) 9 9) r9 := by
    refine ⟨_, 9, rfl, ⟨by decide, by decide⟩, fun _ => ⟨w.heap.size, 0, rfl, rfl, fun j hj => ⟨[.slice none 0 0], rfl, fun i u hu => ?_, ⟨_, rfl, ?_⟩⟩⟩⟩
    · have hi : i = 0 := by
        have := (List.getElem?_eq_some_iff.1 hu).1
        simp at this; omega
      subst hi
      simp only [List.getElem?_cons_zero, Option.some.injEq] at hu
      subst hu
      have hj9 : j < 9 := hj
      rw [Nat.zero_add, Nat.mul_one, Nat.add_zero]
      exact hc9 j hj9
    · have e : r9[j] = [] := by
        have hj9 : j < 9 := hj
        match j, hj9 with
        | 0, _ => rfl
        | 1, _ => rfl
        | 2, _ => rfl
        | 3, _ => rfl
        | 4, _ => rfl
        | 5, _ => rfl
        | 6, _ => rfl
        | 7, _ => rfl
        | 8, _ => rfl
      rw [e]
      exact ⟨none, 0, rfl, ⟨by simp, by simp⟩, fun h => by simp at h⟩
  refine (cut_any sL _ r9 _ _ okL hl (fun b hb => by subst hb; exact hs1)).mono ?_
  rintro e w' ⟨cs', rfl, hr, hb⟩
  rw [if_neg (show ¬ 4096 < r9.length by decide)] at hr ⊢
  rw [cutL] at hr
  have hr2 : rOut (From w1.heap.size w') w' cs' oL := hr
  obtain ⟨q, c, rfl, _⟩ := out_cells hr2
  exact ⟨q, c, rfl, hr2, hB.trans (hb.mono hB.size)⟩
theorem send_lives (q : Option Addr) (c : Nat) (K : Nat → Prop) (w : World) (h : rOut K w [.int .u64 0, .int .u64 0, .int .i64 0, .int .i64 1, .int .i64 0, .slice q 2 c, .int .u64 0] oL) (hK : ∀ b, K b → b < w.heap.size) : Calls Try.prog 8 #[.agg #[.int .u64 0, .int .u64 0, .int .i64 0, .int .i64 1, .int .i64 0, .slice q 2 c, .int .u64 0]] w fun e w' => ∃ g o c2 cl0 cl1, e = .returned (.tuple #[.slice (some ⟨g, o, none⟩) 2 c2, .int .i64 0]) ∧ (g < w'.heap.size ∧ w.heap.size ≤ g) ∧ w'.rangeAt g o cl0 ∧ w'.rangeAt g (o + 47) cl1 ∧ cl0.length = 47 ∧ cl1.length = 47 ∧ rMg (From w.heap.size w') w' cl0 mL0 ∧ rMg (From w.heap.size w') w' cl1 mL1 ∧ Below w.heap.size w w' := by
  refine (send_any _ oL K w h outL hK).mono ?_
  rintro e w' ⟨u, rfl, hO, hb⟩
  rw [sendL] at hO
  obtain ⟨p, c2, rfl, hl⟩ := hO.list mMg (bytes := 640) (by decide)
  obtain ⟨g, o, cl0, rfl, hg, hr0, hl0, hm0⟩ := msg_at hl 0 (by decide)
  obtain ⟨g', o', cl1, e, _, hr1, hl1, hm1⟩ := msg_at hl 1 (by decide)
  cases e
  rw [Nat.zero_mul, Nat.add_zero] at hr0
  rw [Nat.one_mul] at hr1
  exact ⟨g, o, c2, cl0, cl1, rfl, ⟨hg.2, hg.1⟩, hr0, hr1, hl0, hl1, hm0, hm1, hb⟩
/-- What Take answers, its cells told. -/
theorem take_cells (cs cm' : List Value) (x : In_) (y : Mg) (K : Nat → Prop) (w : World) (h : rIn K w cs x) (hin : inE x = 0) (h' : rMg K w cm' y) (hm : y.m = x.m) (hr8 : y.r.length ≤ 8) (hK : ∀ b, K b → b < w.heap.size) :
    Calls Try.prog 18 #[.agg cs.toArray, .agg cm'.toArray] w fun e w' => ∃ q c q2 c2, e = .returned (.tuple #[.agg #[.int .u64 ((takeP x y).m.qb : Int), .int .u64 ((takeP x y).m.qn : Int), .int .i64 (takeP x y).m.at_, .int .i64 (takeP x y).m.fr, .int .i64 (takeP x y).m.tq, .int .u64 ((takeP x y).n : Int), .slice q (takeP x y).h.length c, .slice q2 (takeP x y).r.length c2, .bool (takeP x y).d], .int .i64 (refE x y)]) ∧ rIn (From w.heap.size w') w' [.int .u64 ((takeP x y).m.qb : Int), .int .u64 ((takeP x y).m.qn : Int), .int .i64 (takeP x y).m.at_, .int .i64 (takeP x y).m.fr, .int .i64 (takeP x y).m.tq, .int .u64 ((takeP x y).n : Int), .slice q (takeP x y).h.length c, .slice q2 (takeP x y).r.length c2, .bool (takeP x y).d] (takeP x y) ∧ Below w.heap.size w w' := by
  refine (take_any cs cm' x y K w h hin h' hm hr8 hK).mono ?_
  rintro e w' ⟨cs', rfl, hr, hb⟩
  obtain ⟨q, c, q2, c2, rfl, _⟩ := in_cells2 hr
  exact ⟨q, c, q2, c2, rfl, hr, hb⟩
theorem in_zero (K : Nat → Prop) (w : World) : rIn K w [.int .u64 0, .int .u64 0, .int .i64 0, .int .i64 1, .int .i64 0, .int .u64 0, .slice none 0 0, .slice none 0 0, .bool false] iL0 := ⟨_, _, rfl, ⟨okL, by show (0:Nat) < _; omega⟩, ⟨none, 0, rfl, ⟨by simp [iL0], by simp [iL0]⟩, fun h => by simp [iL0] at h⟩, ⟨none, 0, rfl, ⟨by simp [iL0], by simp [iL0]⟩, fun h => by simp [iL0] at h⟩⟩
theorem take_l0 (cl : List Value) (K : Nat → Prop) (w : World) (h : rMg K w cl mL1) (hK : ∀ b, K b → b < w.heap.size) : Calls Try.prog 18 #[.agg #[.int .u64 0, .int .u64 0, .int .i64 0, .int .i64 1, .int .i64 0, .int .u64 0, .slice none 0 0, .slice none 0 0, .bool false], .agg cl.toArray] w fun e w' => ∃ q c q2 c2, e = .returned (.tuple #[.agg #[.int .u64 0, .int .u64 0, .int .i64 0, .int .i64 1, .int .i64 0, .int .u64 0, .slice q 1 c, .slice q2 0 c2, .bool false], .int .i64 0]) ∧ rIn (From w.heap.size w') w' [.int .u64 0, .int .u64 0, .int .i64 0, .int .i64 1, .int .i64 0, .int .u64 0, .slice q 1 c, .slice q2 0 c2, .bool false] iL1 ∧ Below w.heap.size w w' := by
  have := take_cells _ cl iL0 mL1 K w (in_zero K w) inL0 h rfl (by decide) hK
  rw [takL0, refL0] at this
  exact this
theorem take_l1 (cl cs : List Value) (K : Nat → Prop) (w : World) (h0 : rIn K w cs iL1) (h : rMg K w cl mL0) (hK : ∀ b, K b → b < w.heap.size) : Calls Try.prog 18 #[.agg cs.toArray, .agg cl.toArray] w fun e w' => ∃ q c q2 c2, e = .returned (.tuple #[.agg #[.int .u64 0, .int .u64 0, .int .i64 0, .int .i64 1, .int .i64 0, .int .u64 2, .slice q 0 c, .slice q2 9 c2, .bool true], .int .i64 0]) ∧ rIn (From w.heap.size w') w' [.int .u64 0, .int .u64 0, .int .i64 0, .int .i64 1, .int .i64 0, .int .u64 2, .slice q 0 c, .slice q2 9 c2, .bool true] iL2 ∧ Below w.heap.size w w' := by
  have := take_cells _ cl iL1 mL0 K w h0 inL1 h rfl (by decide) hK
  rw [takL1, refL1] at this
  exact this
theorem take_l2 (cl cs : List Value) (K : Nat → Prop) (w : World) (h0 : rIn K w cs iL2) (h : rMg K w cl mL0) (hK : ∀ b, K b → b < w.heap.size) : Calls Try.prog 18 #[.agg cs.toArray, .agg cl.toArray] w fun e w' => ∃ q c q2 c2, e = .returned (.tuple #[.agg #[.int .u64 0, .int .u64 0, .int .i64 0, .int .i64 1, .int .i64 0, .int .u64 2, .slice q 0 c, .slice q2 9 c2, .bool true], .int .i64 15]) ∧ Below w.heap.size w w' := by
  have := take_cells _ cl iL2 mL0 K w h0 inL2 h rfl (by decide) hK
  have e : takeP iL2 mL0 = iL2 := by unfold takeP; rw [refL2]; rfl
  rw [e, refL2] at this
  refine this.mono ?_
  rintro e w' ⟨q, c, q2, c2, rfl, _, hb⟩
  exact ⟨q, c, q2, c2, rfl, hb⟩
theorem ack_l2 (q q2 : Option Addr) (c c2 : Nat) (K : Nat → Prop) (w : World) (h : rIn K w [.int .u64 0, .int .u64 0, .int .i64 0, .int .i64 1, .int .i64 0, .int .u64 2, .slice q 0 c, .slice q2 9 c2, .bool true] iL2) : Calls Try.prog 23 #[.agg #[.int .u64 0, .int .u64 0, .int .i64 0, .int .i64 1, .int .i64 0, .int .u64 2, .slice q 0 c, .slice q2 9 c2, .bool true]] w fun e w' => ∃ cl : List Value, e = .returned (.agg cl.toArray) ∧ cl.length = 47 ∧ cl[37]? = some (.int .u64 2) ∧ Below w.heap.size w w' := by
  refine (ack_any _ iL2 K w h).mono ?_
  rintro e w' ⟨rfl, hb⟩
  exact ⟨_, rfl, rfl, rfl, hb⟩
theorem out_l (w : World) : Calls Try.prog 15 #[.agg #[.int .u64 0, .int .u64 0, .int .i64 0, .int .i64 0, .int .i64 0, .slice none 0 0, .int .u64 0]] w fun e w' => e = .returned (.int .i64 6) ∧ Below w.heap.size w w' := by
  have h : rOut (fun _ => False) w [.int .u64 0, .int .u64 0, .int .i64 0, .int .i64 0, .int .i64 0, .slice none 0 0, .int .u64 0] ⟨⟨0, 0, 0, 0, 0⟩, [], 0⟩ := ⟨_, rfl, ⟨⟨⟨by show (0:Nat) < _; omega, by show (0:Nat) < _; omega⟩, ⟨by show _ ≤ (0:Int); omega, by show (0:Int) ≤ _; omega⟩, ⟨by show _ ≤ (0:Int); omega, by show (0:Int) ≤ _; omega⟩, ⟨by show _ ≤ (0:Int); omega, by show (0:Int) ≤ _; omega⟩⟩, by show (0:Nat) < _; omega⟩, ⟨none, 0, rfl, ⟨by simp, by simp⟩, fun h => by simp at h⟩⟩
  have := checkOut_any _ _ _ w h (fun b hb => hb.elim)
  exact this
theorem made9 : (madeCells (Value.slice none 0 0).cells (9 * 1)).toList = [.slice none 0 0, .slice none 0 0, .slice none 0 0, .slice none 0 0, .slice none 0 0, .slice none 0 0, .slice none 0 0, .slice none 0 0, .slice none 0 0] := by kernel_rfl
theorem make_lives (w : World) : ∃ w1, (Instr.makeSlice 30 (.int .i64 9) (.int .i64 9)).run Try.prog w = .ok (.slice (some ⟨w.heap.size, 0, none⟩) 9 9) w1 ∧ Below w.heap.size w w1 ∧ w.heap.size < w1.heap.size ∧ ∀ j, j < 9 → w1.cell? ⟨w.heap.size, j, none⟩ = some (.slice none 0 0) := by
  obtain ⟨i0, hi0, hz0, hz1, hz2⟩ := inE_row
  obtain ⟨w1, h1, h2, h3⟩ := run_makeSlice_full (P := Try.prog) (w := w) w.heap.size 30 96 i0 (.slice none 0 0) 1 Try.underlying30 hi0 hz0 hz1 .i64 .i64 9 (by decide) (by rw [hz2]; decide) (by decide) (Nat.le_refl _)
  refine ⟨w1, h1, ⟨h3.os, h3.tape, h3.output, h3.size, fun b hb => h3.block b hb (by simp)⟩, (h2.lt w.heap.size rfl).2, fun j hj => ?_⟩
  have h4 := h2.cellAt j (by omega)
  rw [made9] at h4
  rw [h4]
  match j, hj with
  | 0, _ => rfl
  | 1, _ => rfl
  | 2, _ => rfl
  | 3, _ => rfl
  | 4, _ => rfl
  | 5, _ => rfl
  | 6, _ => rfl
  | 7, _ => rfl
  | 8, _ => rfl
set_option maxRecDepth 100000 in
theorem field37 (cl : List Value) (u : Value) (hk : cl[37]? = some u) (w : World) : (Instr.field 62 (.agg cl.toArray) 7).run Try.prog w = .ok u w := by
  have h1 : (Try.prog.fieldsOf 62)[7]?.map (fun f => (f.type, f.offset)) = some (22, 37) := by kernel_rfl
  have hu : Try.prog.underlying 62 = some (.struct (Try.prog.fieldsOf 62)) := by kernel_rfl
  obtain ⟨f, hf, hf1⟩ : ∃ f, (Try.prog.fieldsOf 62)[7]? = some f ∧ (f.type, f.offset) = (22, 37) := by
    cases hh : (Try.prog.fieldsOf 62)[7]? with
    | none => rw [hh] at h1; cases h1
    | some f => rw [hh] at h1; exact ⟨f, rfl, Option.some.inj h1⟩
  obtain ⟨ht, ho⟩ := Prod.mk.inj hf1
  simp [Instr.field, run_underlying hu, hf, part, ht, ho, Try.isAgg22, asAgg, hk]
end Go.Proofs.Ytcmiphgeakdonaa
