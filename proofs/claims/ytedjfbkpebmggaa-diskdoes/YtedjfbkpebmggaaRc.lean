/- The reference: what with answers. -/
import Derived.Test.YtedjfbkpebmggaaRb
namespace Go.Proofs.Ytedjfbkpebmggaa
open Go.Shelf Go.RowKit Go.Lib Go.Sort
set_option linter.unusedVariables false
set_option linter.unusedSimpArgs false
attribute [local go_sem ↓] Go.wp_at_zero Go.wp_at_succ
/-- A file that is put in ahead of the first that is called more. -/
def rins (x : DF) : List DF → List DF
  | [] => [x]
  | f :: fs => if ltB x.n f.n = true then x :: f :: fs else f :: rins x fs
theorem rins_eq {x : DF} : ∀ {l : List DF}, Up l → (∀ f ∈ l, f.n ≠ x.n) → rins x l = insK (less x.n l) x l
  | [], _, _ => by simp [rins, insK, less]
  | f :: l, hu, hn => by
    obtain ⟨h1, h2⟩ := List.pairwise_cons.1 hu
    have ih := rins_eq (x := x) (l := l) h2 (fun g hg => hn g (List.mem_cons_of_mem _ hg))
    unfold rins
    by_cases e : ltB x.n f.n = true
    · rw [if_pos e]
      have hl : less x.n (f :: l) = 0 := by
        unfold less
        rw [List.countP_eq_zero]
        intro g hg
        rcases List.mem_cons.1 hg with rfl | hg
        · rw [ltB_asymm e]; simp
        · rw [ltB_asymm (ltB_trans e (h1 g hg))]; simp
      rw [hl]; rfl
    · rw [if_neg e]
      have e' : ltB f.n x.n = true := by
        cases e2 : ltB f.n x.n with
        | true => rfl
        | false => exact absurd (ltB_total e2 (by simpa using e)) (hn f (by simp))
      have hl : less x.n (f :: l) = less x.n l + 1 := by unfold less; rw [List.countP_cons_of_pos (by simpa using e')]
      rw [hl, ih]; rfl
/-- What is gathered when i files were gone through. -/
def Put (x : DF) (l ls : List DF) (pt : Bool) (i : Nat) : Prop :=
  (if pt = true then ls ++ l.drop i = rins x l else ls = l.take i ∧ rins x l = l.take i ++ rins x (l.drop i)) ∧ ls.length ≤ i + 1
theorem Put.keep {x f : DF} {l ls : List DF} {i : Nat} (h : Put x l ls true i) (hi : i < l.length) (hf : l[i] = f) : Put x l (ls ++ [f]) true (i + 1) := by
  obtain ⟨h1, h2⟩ := h
  rw [if_pos rfl] at h1
  refine ⟨?_, by simp; omega⟩
  rw [if_pos rfl, List.append_assoc, ← h1, List.drop_eq_getElem_cons hi, hf]
  rfl
theorem Put.pass {x f : DF} {l ls : List DF} {i : Nat} (h : Put x l ls false i) (hi : i < l.length) (hf : l[i] = f) (hn : ltB x.n f.n = false) : Put x l (ls ++ [f]) false (i + 1) := by
  obtain ⟨h1, h2⟩ := h
  rw [if_neg (by simp)] at h1
  obtain ⟨h3, h4⟩ := h1
  refine ⟨?_, by simp; omega⟩
  rw [if_neg (by simp)]
  have ht : l.take (i + 1) = l.take i ++ [f] := by rw [List.take_succ_eq_append_getElem hi, hf]
  refine ⟨by rw [ht, h3], ?_⟩
  rw [h4, List.drop_eq_getElem_cons hi, hf, ht]
  simp [rins, hn]
theorem Put.now {x f : DF} {l ls : List DF} {i : Nat} (h : Put x l ls false i) (hi : i < l.length) (hf : l[i] = f) (hn : ltB x.n f.n = true) : Put x l (ls ++ [x] ++ [f]) true (i + 1) := by
  obtain ⟨h1, h2⟩ := h
  rw [if_neg (by simp)] at h1
  obtain ⟨h3, h4⟩ := h1
  have hl : ls.length = i := by rw [h3, List.length_take]; omega
  refine ⟨?_, by simp; omega⟩
  rw [if_pos rfl, h4, List.drop_eq_getElem_cons hi, hf]
  simp [rins, hn, h3]
theorem Put.end_put {x : DF} {l ls : List DF} {i : Nat} (h : Put x l ls true i) (hi : l.length ≤ i) : ls = rins x l := by
  obtain ⟨h1, _⟩ := h
  rw [if_pos rfl, List.drop_of_length_le hi, List.append_nil] at h1
  exact h1
theorem Put.end_not {x : DF} {l ls : List DF} {i : Nat} (h : Put x l ls false i) (hi : l.length ≤ i) : ls ++ [x] = rins x l := by
  obtain ⟨h1, _⟩ := h
  rw [if_neg (by simp)] at h1
  rw [h1.2, List.drop_of_length_le hi, h1.1]; rfl
theorem rins_length (x : DF) : ∀ l, (rins x l).length = l.length + 1
  | [] => rfl
  | f :: l => by unfold rins; split <;> simp [rins_length x l]
/-- One more file is gathered. -/
theorem gath_more (W0 W : World) (u : Value) (ls : List DF) (n d : ByteArray) (y : Int) (h : GathF W0 u ls W) (hm : (ls.length + 1) * 40 ≤ 140737488355328) :
    ∃ u' W', (∀ ty, (Builtin.append_ #[22, 22] ty #[u, .slice (some ⟨W.heap.size, 0, none⟩) 1 1]).run Try.prog (W.alloc (.cells #[.string n, .string d, .int .i64 y] 41)) = .ok u' W') ∧ GathF W0 u' (ls ++ [⟨n, d, y⟩]) W' ∧ (∃ p c, u' = .slice p (ls.length + 1) c) ∧ ∀ m, m < W.heap.size → u.ownBlock ≠ some m → W'.heap[m]? = W.heap[m]? := by
  obtain ⟨i0, hi, hz0, hz1, hz2⟩ := info41
  have hA := h.alloc (.cells #[.string n, .string d, .int .i64 y] 41)
  obtain ⟨hown, hbw⟩ := hA
  unfold OwnF at hown
  obtain ⟨v', W', e, h2, h3, h4, h5⟩ := run_append_own_at (P := Try.prog) (W.alloc (.cells #[.string n, .string d, .int .i64 y] 41)) W0.heap.size 22 22 41 i0 _ 3 40 Try.underlying22 hi hz0 hz1 hz2 rfl (by omega) u ls.length (flat ls) hown ⟨W.heap.size, 0, none⟩ 1 1 [.string n, .string d, .int .i64 y] rfl (cell_three _ _ _ _ _) (fun x hx => by simp at hx; rcases hx with rfl | rfl | rfl <;> rfl) (by unfold maxLen; omega) (by omega) hbw.size
  have hO : OwnF W0.heap.size W' v' (ls ++ [⟨n, d, y⟩]) := by unfold OwnF; rw [List.length_append, flat_append, flat_single]; exact h2
  refine ⟨v', W', fun ty => ?_, ⟨hO, Below.grown hbw h3 hbw.size (fun j hj => by have := (hown.lt _ hj).1; omega)⟩, ?_, fun m hm2 hne => ?_⟩
  · exact e
  · obtain ⟨p, c, e'⟩ := hO.form
    exact ⟨p, c, by rw [e', List.length_append]; rfl⟩
  · rw [h3.block m (by simp; omega) (fun e => hne e.symm)]
    exact heap_alloc_old W _ hm2
end Go.Proofs.Ytedjfbkpebmggaa
