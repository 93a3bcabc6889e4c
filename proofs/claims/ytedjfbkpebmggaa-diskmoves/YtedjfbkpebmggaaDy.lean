/- A file that is moved: what is read of it, and behind a crash. -/
import Derived.Test.YtedjfbkpebmggaaDx
namespace Go.Proofs.Ytedjfbkpebmggaa
open Go.Shelf Go.RowKit Go.Lib Go.Sort
set_option linter.unusedVariables false
set_option linter.unusedSimpArgs false
theorem has_map (keep : Int) (nm : ByteArray) (fs : List DF) : has nm (fs.map (crF keep)) = has nm fs := by
  unfold has
  rw [List.any_map]
  rfl
theorem fnd_map {keep : Int} {nm : ByteArray} {fs : List DF} (h : has nm fs = true) : fnd nm (fs.map (crF keep)) = crF keep (fnd nm fs) := by
  unfold has at h
  obtain ⟨f, hf, e⟩ := List.any_eq_true.1 h
  unfold fnd
  rw [List.find?_map]
  have e2 : ((fun f => eqB f.n nm) ∘ crF keep) = fun f => eqB f.n nm := rfl
  rw [e2]
  cases hfd : fs.find? (fun f => eqB f.n nm) with
  | none => have := List.find?_eq_none.1 hfd f hf; simp [e] at this
  | some g => rfl
theorem rd_ok {fs : List DF} {nm : ByteArray} (h : OkF fs) : rdS fs false nm = (fnd nm fs).d ∧ (has nm fs = true → rdE fs false nm = 0) ∧ (has nm fs = false → rdE fs false nm = 7) := by
  have hk := okF_iff.2 h
  refine ⟨?_, fun hh => ?_, fun hh => ?_⟩
  · unfold rdS; rw [if_pos hk, if_neg (by simp)]
  · unfold rdE; rw [if_pos hk, if_neg (by simp), if_pos hh]
  · unfold rdE; rw [if_pos hk, if_neg (by simp), if_neg (by rw [hh]; simp)]
theorem mov_mem {fs : List DF} {nm tt : ByteArray} {g : DF} : g ∈ movF fs nm tt ↔ g = ⟨tt, (fnd nm fs).d, (fnd nm fs).y⟩ ∨ (g ∈ fs ∧ g.n ≠ nm ∧ g.n ≠ tt) := by
  unfold movF
  rw [wi_mem, wo_mem]
  constructor
  · rintro (h | ⟨⟨h1, h2⟩, h3⟩)
    · exact .inl h
    · exact .inr ⟨h1, h2, h3⟩
  · rintro (h | ⟨h1, h2, h3⟩)
    · exact .inl h
    · exact .inr ⟨⟨h1, h2⟩, h3⟩
theorem mov_found {fs : List DF} {nm tt : ByteArray} (hu : Up (movF fs nm tt)) : has tt (movF fs nm tt) = true ∧ fnd tt (movF fs nm tt) = ⟨tt, (fnd nm fs).d, (fnd nm fs).y⟩ := by
  have hm : (⟨tt, (fnd nm fs).d, (fnd nm fs).y⟩ : DF) ∈ movF fs nm tt := mov_mem.2 (.inl rfl)
  have hh : has tt (movF fs nm tt) = true := List.any_eq_true.2 ⟨_, hm, eqB_iff.2 rfl⟩
  refine ⟨hh, ?_⟩
  obtain ⟨m1, m2⟩ := fnd_mem hh
  exact hu.one m1 hm m2
theorem mov_from {fs : List DF} {nm tt : ByteArray} (hne : nm ≠ tt) : has nm (movF fs nm tt) = false := by
  cases e : has nm (movF fs nm tt) with
  | false => rfl
  | true =>
    obtain ⟨m1, m2⟩ := fnd_mem e
    rcases mov_mem.1 m1 with h | ⟨_, h, _⟩
    · rw [h] at m2; exact absurd m2.symm hne
    · exact absurd m2 h
theorem crF_d (keep : Int) (f : DF) (tt : ByteArray) : (crF keep ⟨tt, f.d, f.y⟩).d = (crF keep f).d := rfl
/-- What a move comes to. -/
theorem moves_ways (fs : List DF) (dn : Bool) (fu keep : Int) (nm tt : ByteArray) :
    ((DoR fs dn fu 3 nm tt ⟨#[]⟩).e ≠ 0 ∧ (rdE fs dn nm ≠ 0 ∨ (rdE fs dn nm = 0 ∧ tt = ⟨#[]⟩) ∨ (rdE fs dn nm = 0 ∧ tt ≠ ⟨#[]⟩ ∧ (DoR fs dn fu 3 nm tt ⟨#[]⟩).dn = true))) ∨
    ((DoR fs dn fu 3 nm tt ⟨#[]⟩).e = 0 ∧ (DoR fs dn fu 3 nm tt ⟨#[]⟩).dn = false ∧ dn = false ∧ OkF fs ∧ OkF (DoR fs dn fu 3 nm tt ⟨#[]⟩).fs ∧ rdE fs dn nm = 0 ∧ rdE (DoR fs dn fu 3 nm tt ⟨#[]⟩).fs false tt = 0 ∧ rdS (DoR fs dn fu 3 nm tt ⟨#[]⟩).fs false tt = rdS fs dn nm ∧
      ((rdE (DoR fs dn fu 3 nm tt ⟨#[]⟩).fs false nm = 0 ∧ nm = tt) ∨ (rdE (DoR fs dn fu 3 nm tt ⟨#[]⟩).fs false nm = 7 ∧ nm ≠ tt)) ∧
      rdE (fs.map (crF keep)) false nm = 0 ∧ rdE ((DoR fs dn fu 3 nm tt ⟨#[]⟩).fs.map (crF keep)) false tt = 0 ∧ rdS ((DoR fs dn fu 3 nm tt ⟨#[]⟩).fs.map (crF keep)) false tt = rdS (fs.map (crF keep)) false nm) := by
  unfold DoR
  by_cases hok : okF fs = true
  · rw [if_pos hok]
    have hO := okF_iff.1 hok
    unfold doR
    rw [if_neg (by omega)]
    cases dn with
    | true =>
      rw [if_pos rfl]
      refine .inl ⟨by simp, .inl ?_⟩
      unfold rdE; rw [if_pos hok, if_pos rfl]; simp
    | false =>
      rw [if_neg (by simp)]
      obtain ⟨r1, r2, r3⟩ := rd_ok (nm := nm) hO
      have hce : chgE fs 3 nm tt ⟨#[]⟩ = movE fs nm tt := by unfold chgE; rw [if_neg (by omega), if_neg (by omega), if_pos rfl]
      have hcf : chgF fs 3 nm tt ⟨#[]⟩ = movF fs nm tt := by unfold chgF; rw [if_neg (by omega), if_neg (by omega), if_pos rfl]
      by_cases he : chgE fs 3 nm tt ⟨#[]⟩ ≠ 0
      · rw [if_pos he]
        refine .inl ⟨he, ?_⟩
        cases hh : has nm fs with
        | false => left; rw [r3 hh]; simp
        | true =>
          right; left
          refine ⟨r2 hh, ?_⟩
          rw [hce] at he
          unfold movE at he
          rw [hh, if_pos rfl] at he
          by_cases et : tt = ⟨#[]⟩
          · exact et
          · rw [if_neg et] at he; exact absurd rfl he
      · rw [if_neg he]
        have he0 : chgE fs 3 nm tt ⟨#[]⟩ = 0 := by simpa using he
        have hoc := hO.chg he0
        rw [hce] at he0
        unfold movE at he0
        have hh : has nm fs = true := by
          cases hh : has nm fs with
          | true => rfl
          | false => rw [hh] at he0; simp at he0
        rw [hh, if_pos rfl] at he0
        have et : tt ≠ ⟨#[]⟩ := fun e => by rw [if_pos e] at he0; omega
        by_cases h0 : fu = 0
        · exact .inl ⟨by simp [h0], .inr (.inr ⟨r2 hh, et, by simp [h0]⟩)⟩
        · right
          simp only [h0, if_false, false_and]
          rw [hcf] at hoc ⊢
          obtain ⟨q1, q2, q3⟩ := rd_ok (nm := tt) hoc
          obtain ⟨q4, q5, q6⟩ := rd_ok (nm := nm) hoc
          obtain ⟨f1, f2⟩ := mov_found hoc.2.1
          obtain ⟨s1, s2, _⟩ := rd_ok (nm := nm) (hO.crash keep)
          obtain ⟨s4, s5, _⟩ := rd_ok (nm := tt) (hoc.crash keep)
          refine ⟨trivial, trivial, trivial, hO, hoc, r2 hh, q2 f1, by rw [q1, r1, f2], ?_, s2 (by rw [has_map]; exact hh), s5 (by rw [has_map]; exact f1), ?_⟩
          · by_cases e : nm = tt
            · left; refine ⟨q5 ?_, e⟩; rw [e]; rw [e] at f1; exact f1
            · right; exact ⟨q6 (mov_from e), e⟩
          · rw [s1, s4, fnd_map hh, fnd_map f1, f2, crF_d]
  · rw [if_neg hok]
    refine .inl ⟨by simp, .inl ?_⟩
    unfold rdE; rw [if_neg hok]; simp
end Go.Proofs.Ytedjfbkpebmggaa
