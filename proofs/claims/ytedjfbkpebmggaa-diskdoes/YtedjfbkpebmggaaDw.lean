/- Changes keep a disk right, and other files. -/
import Derived.Test.YtedjfbkpebmggaaAgainWalk
namespace Go.Proofs.Ytedjfbkpebmggaa
open Go.Shelf Go.RowKit Go.Lib Go.Sort
set_option linter.unusedVariables false
set_option linter.unusedSimpArgs false
theorem wo_mem {nm : ByteArray} {fs : List DF} {g : DF} : g ∈ wo nm fs ↔ g ∈ fs ∧ g.n ≠ nm := by
  unfold wo
  rw [List.mem_filter]
  constructor
  · rintro ⟨h1, h2⟩
    refine ⟨h1, fun e => ?_⟩
    rw [eqB_iff.2 e] at h2; cases h2
  · rintro ⟨h1, h2⟩
    refine ⟨h1, ?_⟩
    cases e : eqB g.n nm with
    | false => rfl
    | true => exact absurd (eqB_iff.1 e) h2
theorem insK_mem {k : Nat} {f g : DF} {l : List DF} : g ∈ insK k f l ↔ g = f ∨ g ∈ l := by
  unfold insK
  rw [List.mem_append, List.mem_cons]
  constructor
  · rintro (h | h | h)
    · exact .inr (List.mem_of_mem_take h)
    · exact .inl h
    · exact .inr (List.mem_of_mem_drop h)
  · rintro (h | h)
    · exact .inr (.inl h)
    · rw [← List.take_append_drop k l, List.mem_append] at h
      rcases h with h | h
      · exact .inl h
      · exact .inr (.inr h)
theorem szs_append (a b : List DF) : szs (a ++ b) = szs a + szs b := by simp [szs]
theorem szs_insK (k : Nat) (f : DF) (l : List DF) : szs (insK k f l) = szs l + f.d.size := by
  unfold insK
  rw [szs_append]
  have e1 : szs (f :: l.drop k) = f.d.size + szs (l.drop k) := by simp [szs]
  have e2 : szs l = szs (l.take k) + szs (l.drop k) := by rw [← szs_append, List.take_append_drop]
  omega
/-- Ahead of the place are those that are called less. -/
theorem less_take {nm : ByteArray} : ∀ {l : List DF}, Up l → (∀ f ∈ l, f.n ≠ nm) → (∀ g ∈ l.take (less nm l), ltB g.n nm = true) ∧ ∀ g ∈ l.drop (less nm l), ltB nm g.n = true
  | [], _, _ => by simp [less]
  | f :: l, hu, hn => by
    obtain ⟨h1, h2⟩ := List.pairwise_cons.1 hu
    have ih := less_take (nm := nm) (l := l) h2 (fun g hg => hn g (List.mem_cons_of_mem _ hg))
    cases e : ltB f.n nm with
    | true =>
      have hl : less nm (f :: l) = less nm l + 1 := by unfold less; rw [List.countP_cons_of_pos (by simpa using e)]
      rw [hl]
      refine ⟨fun g hg => ?_, fun g hg => ih.2 g (by simpa using hg)⟩
      simp only [List.take_succ_cons, List.mem_cons] at hg
      rcases hg with rfl | hg
      · exact e
      · exact ih.1 g hg
    | false =>
      have hge : ltB nm f.n = true := by
        cases e2 : ltB nm f.n with
        | true => rfl
        | false => exact absurd (ltB_total e e2) (hn f (by simp))
      have hall : ∀ g ∈ f :: l, ltB nm g.n = true := fun g hg => by
        rcases List.mem_cons.1 hg with rfl | hg
        · exact hge
        · exact ltB_trans hge (h1 g hg)
      have hl : less nm (f :: l) = 0 := by
        unfold less
        rw [List.countP_eq_zero]
        intro g hg
        rw [ltB_asymm (hall g hg)]; simp
      rw [hl]
      exact ⟨by simp, fun g hg => hall g (by simpa using hg)⟩
theorem Up.insK {f : DF} {l : List DF} (hu : Up l) (hn : ∀ g ∈ l, g.n ≠ f.n) : Up (Ytedjfbkpebmggaa.insK (less f.n l) f l) := by
  obtain ⟨h1, h2⟩ := less_take hu hn
  unfold Ytedjfbkpebmggaa.insK
  unfold Up
  rw [List.pairwise_append, List.pairwise_cons]
  have hsub := hu
  unfold Up at hsub
  rw [← List.take_append_drop (less f.n l) l, List.pairwise_append] at hsub
  refine ⟨hsub.1, ⟨fun g hg => h2 g hg, hsub.2.1⟩, fun a ha b hb => ?_⟩
  rcases List.mem_cons.1 hb with rfl | hb
  · exact h1 a ha
  · exact hsub.2.2 a ha b hb
theorem OkF.wo {fs : List DF} (h : OkF fs) (nm : ByteArray) : OkF (wo nm fs) :=
  ⟨fun f hf => h.1 f (wo_mem.1 hf).1, Up.wo h.2.1 nm, fun f hf => h.2.2.1 f (wo_mem.1 hf).1, Nat.le_trans (szs_wo nm fs) h.2.2.2⟩
theorem OkF.wi {fs : List DF} (h : OkF fs) {f : DF} (h1 : f.n ≠ ⟨#[]⟩) (h2 : 0 ≤ f.y ∧ f.y ≤ (f.d.size : Int)) (h3 : szs (Ytedjfbkpebmggaa.wo f.n fs) + f.d.size ≤ 1048576) : OkF (wi f fs) := by
  have hw := h.wo f.n
  unfold Ytedjfbkpebmggaa.wi
  refine ⟨fun g hg => ?_, Up.insK hw.2.1 (fun g hg => (wo_mem.1 hg).2), fun g hg => ?_, by rw [szs_insK]; exact h3⟩
  · rcases insK_mem.1 hg with rfl | hg
    · exact h1
    · exact hw.1 g hg
  · rcases insK_mem.1 hg with rfl | hg
    · exact h2
    · exact hw.2.2.1 g hg
theorem szs_wo_mem {nm : ByteArray} {f : DF} : ∀ {fs : List DF}, f ∈ fs → f.n = nm → szs (wo nm fs) + f.d.size ≤ szs fs
  | [], h, _ => by simp at h
  | g :: fs, h, e => by
    have e1 : szs (g :: fs) = g.d.size + szs fs := by simp [szs]
    rcases List.mem_cons.1 h with rfl | h
    · have e2 : wo nm (f :: fs) = wo nm fs := by unfold wo; rw [List.filter_cons, if_neg (by rw [eqB_iff.2 e]; simp)]
      have := szs_wo nm fs
      rw [e2]; omega
    · have ih := szs_wo_mem h e
      have e2 : szs (wo nm (g :: fs)) ≤ g.d.size + szs (wo nm fs) := by
        unfold wo
        rw [List.filter_cons]
        split
        · simp [szs]
        · simp [szs]
      omega
/-- Files that are changed stay right. -/
theorem OkF.chg {fs : List DF} (h : OkF fs) {kk : Int} {nm tt dt : ByteArray} (he : chgE fs kk nm tt dt = 0) : OkF (chgF fs kk nm tt dt) := by
  unfold chgE at he
  unfold chgF
  by_cases k1 : kk = 1
  · rw [if_pos k1] at he ⊢
    unfold putE at he
    unfold putF
    by_cases e0 : nm = ⟨#[]⟩
    · rw [if_pos e0] at he; omega
    · rw [if_neg e0] at he
      by_cases e1 : 1048576 < dt.size + szs (Ytedjfbkpebmggaa.wo nm fs)
      · rw [if_pos e1] at he; omega
      · have hw := szs_wo nm (Ytedjfbkpebmggaa.wo nm fs)
        exact (h.wo nm).wi (f := ⟨nm, dt, 0⟩) e0 ⟨Int.le_refl _, by simp⟩ (by show szs (Ytedjfbkpebmggaa.wo nm (Ytedjfbkpebmggaa.wo nm fs)) + dt.size ≤ 1048576; omega)
  rw [if_neg k1] at he ⊢
  have hfound : ∀ {x : Int}, (if has nm fs = true then x else 7) = 0 → has nm fs = true := fun {x} hx => by
    cases hh : has nm fs with
    | true => rfl
    | false => rw [hh] at hx; simp at hx
  by_cases k2 : kk = 2
  · rw [if_pos k2] at he ⊢
    have hh := hfound he
    obtain ⟨m1, m2⟩ := fnd_mem hh
    unfold synF
    have hz := szs_wo_mem m1 m2
    refine h.wi (f := ⟨(fnd nm fs).n, (fnd nm fs).d, ((fnd nm fs).d.size : Int)⟩) (h.1 (fnd nm fs) m1) ⟨by simp, Int.le_refl _⟩ ?_
    show szs (Ytedjfbkpebmggaa.wo (fnd nm fs).n fs) + (fnd nm fs).d.size ≤ 1048576
    rw [m2]
    have := h.2.2.2
    omega
  rw [if_neg k2] at he ⊢
  by_cases k3 : kk = 3
  · rw [if_pos k3] at he ⊢
    unfold movE at he
    have hh := hfound he
    rw [hh, if_pos rfl] at he
    have e0 : tt ≠ ⟨#[]⟩ := fun e => by rw [if_pos e] at he; omega
    obtain ⟨m1, m2⟩ := fnd_mem hh
    unfold movF
    have hz := szs_wo_mem m1 m2
    have hw := szs_wo tt (Ytedjfbkpebmggaa.wo nm fs)
    refine (h.wo nm).wi (f := ⟨tt, (fnd nm fs).d, (fnd nm fs).y⟩) e0 (h.2.2.1 (fnd nm fs) m1) ?_
    show szs (Ytedjfbkpebmggaa.wo tt (Ytedjfbkpebmggaa.wo nm fs)) + (fnd nm fs).d.size ≤ 1048576
    have := h.2.2.2
    omega
  rw [if_neg k3] at he ⊢
  exact h.wo nm
theorem OkF.doR {fs : List DF} (h : OkF fs) (dn : Bool) (fu kk : Int) (nm tt dt : ByteArray) : OkF (doR fs dn fu kk nm tt dt).fs := by
  unfold Ytedjfbkpebmggaa.doR
  split
  · exact h
  · split
    · exact h
    · split
      · exact h
      · rename_i he
        show OkF (if fu = 0 ∧ kk ≠ 1 then fs else chgF fs kk nm tt dt)
        split
        · exact h
        · exact h.chg (by simpa using he)
/-- Two lists that have the same files of a name. -/
theorem same_named {nm : ByteArray} {fs gs : List DF} (hf : Up fs) (hg : Up gs) (h : ∀ f : DF, f.n = nm → (f ∈ fs ↔ f ∈ gs)) : has nm fs = has nm gs ∧ fnd nm fs = fnd nm gs := by
  have one : ∀ {l l' : List DF}, (∀ f : DF, f.n = nm → (f ∈ l → f ∈ l')) → has nm l = true → has nm l' = true := fun {l l'} hm hh => by
    obtain ⟨m1, m2⟩ := fnd_mem hh
    exact List.any_eq_true.2 ⟨_, hm _ m2 m1, eqB_iff.2 m2⟩
  cases e : has nm fs with
  | true =>
    have e2 := one (fun f h1 h2 => (h f h1).1 h2) e
    refine ⟨by rw [e2], ?_⟩
    obtain ⟨m1, m2⟩ := fnd_mem e
    obtain ⟨m3, m4⟩ := fnd_mem e2
    exact hg.one ((h _ m2).1 m1) m3 (by rw [m2, m4])
  | false =>
    cases e2 : has nm gs with
    | true => have := one (fun f h1 h2 => (h f h1).2 h2) e2; rw [e] at this; cases this
    | false => exact ⟨rfl, by rw [fnd_none e, fnd_none e2]⟩
theorem wi_mem {f g : DF} {fs : List DF} : g ∈ wi f fs ↔ g = f ∨ (g ∈ fs ∧ g.n ≠ f.n) := by
  unfold wi
  rw [insK_mem, wo_mem]
/-- Other files stay. -/
theorem chg_others {fs : List DF} {kk : Int} {nm tt dt ot : ByteArray} (he : chgE fs kk nm tt dt = 0) (h1 : ot ≠ nm) (h2 : kk = 3 → ot ≠ tt) : ∀ f : DF, f.n = ot → (f ∈ fs ↔ f ∈ chgF fs kk nm tt dt) := by
  intro f hf
  unfold chgF
  unfold chgE at he
  by_cases k1 : kk = 1
  · rw [if_pos k1]
    unfold putF
    rw [wi_mem, wo_mem]
    constructor
    · intro h; exact .inr ⟨⟨h, by rw [hf]; exact h1⟩, by rw [hf]; exact h1⟩
    · rintro (rfl | h)
      · exact absurd hf.symm h1
      · exact h.1.1
  rw [if_neg k1] at he ⊢
  by_cases k2 : kk = 2
  · rw [if_pos k2] at he ⊢
    have hh : has nm fs = true := by
      cases hh : has nm fs with
      | true => rfl
      | false => unfold synE at he; rw [hh] at he; simp at he
    obtain ⟨m1, m2⟩ := fnd_mem hh
    unfold synF
    rw [wi_mem]
    constructor
    · intro h; exact .inr ⟨h, by rw [hf]; show ot ≠ (fnd nm fs).n; rw [m2]; exact h1⟩
    · rintro (e | h)
      · rw [e] at hf
        exact absurd (m2.symm.trans hf).symm h1
      · exact h.1
  rw [if_neg k2] at he ⊢
  by_cases k3 : kk = 3
  · rw [if_pos k3]
    unfold movF
    rw [wi_mem, wo_mem]
    constructor
    · intro h; exact .inr ⟨⟨h, by rw [hf]; exact h1⟩, by rw [hf]; exact h2 k3⟩
    · rintro (e | h)
      · rw [e] at hf
        exact absurd hf.symm (h2 k3)
      · exact h.1.1
  rw [if_neg k3, wo_mem]
  constructor
  · intro h; exact ⟨h, by rw [hf]; exact h1⟩
  · intro h; exact h.1
end Go.Proofs.Ytedjfbkpebmggaa
