/- What Sort answers: the rows in order, those alike as they came, in memory of their own. -/
import Derived.Test.YtmagfjlpjjmknaaDoorXd
import Derived.Test.YtmagfjlpjjmknaaDoorSh
import Derived.Deep.Slices
namespace Go.Proofs.YtmagfjlpjjmknaaDoor
open Go.Shelf Go.RowKit Go.Lib Go.Sort
set_option linter.unusedVariables false
set_option linter.unusedSimpArgs false
attribute [local go_sem ↓] Go.wp_at_zero Go.wp_at_succ

theorem flat_at : ∀ (xs : List Val) (j : Nat) (h : j < xs.length), (flat xs)[j * 4]? = some (.int .u8 xs[j].k) ∧ (flat xs)[j * 4 + 1]? = some (.bool xs[j].b) ∧ (flat xs)[j * 4 + 2]? = some (.int .i64 xs[j].n) ∧ (flat xs)[j * 4 + 3]? = some (.string xs[j].s)
  | [], _, h => by simp at h
  | x :: xs, 0, _ => by simp [flat]
  | x :: xs, j + 1, h => by
    have ih := flat_at xs j (by simpa using h)
    rw [show (j + 1) * 4 = j * 4 + 4 by omega]
    simpa [flat] using ih
theorem OwnR.row {base : Nat} {W : World} {u : Value} {xs : List Val} (h : OwnR base W u xs) : RowV W u xs := by
  obtain ⟨hl, ⟨rfl, hn⟩ | ⟨g, cap, cur, rfl, hb, hg, hnc, hcm, hcs, htake⟩⟩ := h
  · have : xs = [] := List.eq_nil_of_length_eq_zero hn
    subst this
    exact ⟨by simp, .inl ⟨none, 0, rfl, rfl⟩⟩
  · refine ⟨by unfold maxLen at hcm; omega, .inr ⟨g, 0, cap, rfl, ?_, (Array.getElem?_eq_some_iff.1 hg).1⟩⟩
    intro j hj
    have hc : ∀ k v, (flat xs)[k]? = some v → W.cell? ⟨g, 0 + k, none⟩ = some v := fun k v hk => by
      rw [← htake] at hk
      rw [Nat.zero_add]
      simp only [World.cell?, hg]
      have := List.getElem?_take (l := cur.toList) (i := xs.length * 4) (j := k)
      rw [hk] at this
      split at this
      · simpa using this.symm
      · cases this
    obtain ⟨a0, a1, a2, a3⟩ := flat_at xs j hj
    exact ⟨hc _ _ a0, hc _ _ a1, hc _ _ a2, hc _ _ a3⟩
theorem OwnR.moved {base : Nat} {w W : World} {u : Value} {xs : List Val} (h : OwnR base w u xs) (hk : ∀ k, u.ownBlock = some k → W.heap[k]? = w.heap[k]?) : OwnR base W u xs := by
  obtain ⟨hl, hn | ⟨g, cap, cur, rfl, hb, hg, rest⟩⟩ := h
  · exact ⟨hl, .inl hn⟩
  · exact ⟨hl, .inr ⟨g, cap, cur, rfl, hb, by rw [hk g rfl]; exact hg, rest⟩⟩
theorem OwnL.rows {base : Nat} {W : World} {v : Value} {rs : List (List Val)} (h : OwnL base W v rs) (hn : rs.length ≤ 9223372036854775807) : RowsL W v rs := by
  obtain ⟨g, cap, rfl, hb, hlt, hc⟩ := h
  refine ⟨_, cap, rfl, hn, fun _ => ⟨g, 0, rfl, hlt, fun j hj => ?_⟩⟩
  obtain ⟨u, h1, _, h3, _⟩ := hc j hj
  exact ⟨u, by rw [Nat.zero_add]; exact h1, h3.row⟩
theorem GathJ.rows {w W : World} {v : Value} {rs : List (List Val)} (h : GathJ w rs.length rs v W) (hn : rs.length ≤ 9223372036854775807) : RowsL W v rs := by
  obtain ⟨us, hv, hb, hr⟩ := h
  obtain ⟨hl, ⟨rfl, h0⟩ | ⟨g, cap, cur, rfl, hbg, hg, hnc, hcm, hcs, htake⟩⟩ := hv
  · exact ⟨none, 0, by rw [h0], hn, fun h => by omega⟩
  · refine ⟨_, cap, rfl, hn, fun _ => ⟨g, 0, rfl, (Array.getElem?_eq_some_iff.1 hg).1, fun j hj => ?_⟩⟩
    obtain ⟨u, h1, h2⟩ := hr j hj hj
    refine ⟨u, ?_, h2.row⟩
    rw [← htake] at h1
    rw [Nat.zero_add]
    simp only [World.cell?, hg]
    have := List.getElem?_take (l := cur.toList) (i := rs.length * 1) (j := j)
    rw [h1] at this
    split at this
    · simpa using this.symm
    · cases this
theorem GathJ.below {w W : World} {i : Nat} {v : Value} {rs : List (List Val)} (h : GathJ w i rs v W) : Below w.heap.size w W := by
  obtain ⟨_, _, h, _⟩ := h; exact h

/-- The rows as they are sorted. -/
theorem stable_rows (w w1 : World) (g cap : Nat) (rs : List (List Val)) (hb : Below w.heap.size w w1) (hO : OwnL w.heap.size w1 (.slice (some ⟨g, 0, none⟩) rs.length cap) rs) (hT : Lib.Utf8Tabs 0 1 w) (hn : rs.length * 24 ≤ 140737488355328) :
    Calls Tryd.prog 27 #[.slice (some ⟨g, 0, none⟩) rs.length cap, .func (.func 28) #[] #[]] w1 fun e w' => e = .returned (.tuple #[]) ∧ ∃ out, IsSort rs rs.length out ∧ OwnL w.heap.size w' (.slice (some ⟨g, 0, none⟩) rs.length cap) out ∧ Below w.heap.size w w' := by
  obtain ⟨g', cap', hv, hgb, hglt, hc⟩ := hO
  simp only [Value.slice.injEq, Option.some.injEq, Addr.mk.injEq, and_true, true_and] at hv
  obtain ⟨rfl, rfl⟩ := hv
  have hc' : ∀ j, j < rs.length → ∃ u, w1.cell? ⟨g, j, none⟩ = some u ∧ w1.frozen? ⟨g, j, none⟩ = false ∧ OwnR w.heap.size w1 u rs[j]! ∧ u.ownBlock ≠ some g := fun j hj => by
    obtain ⟨u, h1, h2, h3, h4⟩ := hc j hj
    exact ⟨u, h1, h2, by rw [getElem!_pos rs j hj]; exact h3, h4⟩
  haveI : Inhabited Value := ⟨.slice none 0 0⟩
  obtain ⟨U, hU⟩ := Deep.choose_lt hc'
  obtain ⟨V, hV⟩ : ∃ V : Nat → Value, ∀ i, V i = if i < rs.length then U i else .slice none 0 0 := ⟨_, fun _ => rfl⟩
  have hVO : ∀ i, OwnR w.heap.size w1 (V i) rs[i]! ∧ (V i).ownBlock ≠ some g := fun i => by
    rw [hV i]
    by_cases h : i < rs.length
    · rw [if_pos h]; exact ⟨(hU i h).2.2.1, (hU i h).2.2.2⟩
    · rw [if_neg h, getElem!_neg rs i h]
      exact ⟨⟨rfl, .inl ⟨rfl, rfl⟩⟩, by simp [Value.ownBlock]⟩
  have hVm : ∀ (dk : Array Nat) (W : World), SB V w1 g 0 dk W → ∀ i, OwnR w.heap.size W (V i) rs[i]! := fun dk W S i => by
    refine (hVO i).1.moved fun k hk => ?_
    exact S.block k ((hVO i).1.lt k hk).2 (fun e => (hVO i).2 (by rw [hk, e]))
  have hSb : ∀ (dk : Array Nat) (W : World), SB V w1 g 0 dk W → Below w.heap.size w W := fun dk W S =>
    ⟨S.os.trans hb.os, S.tape.trans hb.tape, S.output.trans hb.output, Nat.le_trans hb.size S.size, fun k hk => (S.block k (Nat.lt_of_lt_of_le hk hb.size) (by omega)).trans (hb.block k hk)⟩
  have hH : Holds V w1 g 0 (Array.range rs.length) := fun j hj => by
    have hj' : j < rs.length := by simpa using hj
    rw [getElem!_pos _ j hj, Array.getElem_range, Nat.zero_add, hV j, if_pos hj']
    exact ⟨(hU j hj').1, (hU j hj').2.1⟩
  have hO1 : OneCell V := fun i => by
    have := ownR_one (hVO i).1
    exact this
  have hcmp : CmpB Tryd.prog 28 #[] V (cI rs) g 0 (Array.range rs.length).size w1 := fun dk W hs S x y =>
    compareRows_any (V x) (V y) rs[x]! rs[y]! W (hVm dk W S x).row (hVm dk W S y).row (Utf8Tabs_below hT (hSb dk W S))
  have S0 : SB V w1 g 0 (Array.range rs.length) w1 := ⟨rfl, rfl, rfl, Nat.le_refl _, fun _ _ _ => rfl, hH, hglt⟩
  have eg : ∀ args w, (callFunc 28 args).run Tryd.prog w = .ok (.enter 28 args) w := enters_of Tryd.func28 (by kernel_rfl) rfl
  have hcon := sortStable_any V (cI rs) id (swo_pc id (pc_cI rs)) 28 #[] g 0 cap (Array.range rs.length) w1 eg hcmp ⟨hO1, hH, hglt⟩ S0 (by simp; omega) (fun i j hij hj => by
    have hj' : j < rs.length := by simpa using hj
    rw [getElem!_pos _ i (by simp; omega), getElem!_pos _ j hj, Array.getElem_range, Array.getElem_range]
    exact hij)
  rw [Array.size_range] at hcon
  refine hcon.mono ?_
  rintro e w' ⟨rfl, d', S', hp, hs⟩
  have hsz : d'.size = rs.length := by simpa using hp.1
  have hperm : d'.toList.Perm (List.range rs.length) := by
    have := perm_of_permIn (d := Array.range rs.length) (by simpa using hp)
    simpa using this
  refine ⟨rfl, d'.toList.map fun i => rs[i]!, ⟨d'.toList, hperm, ?_, rfl⟩, ?_, hSb _ _ S'⟩
  · rw [List.pairwise_iff_getElem]
    intro i j hi hj hij
    have h1 := hs i j (Nat.zero_le _) hij (by rw [← hsz]; simpa using hj)
    rw [getElem!_pos d' i (by simpa using hi), getElem!_pos d' j (by simpa using hj)] at h1
    intro h2
    rw [← tlt_cT (pc_cI rs)] at h2
    simp only [Array.getElem_toList] at h2
    rw [h1] at h2
    cases h2
  · refine ⟨g, cap, by simp [hsz], hgb, S'.inb, fun j hj => ?_⟩
    have hj' : j < d'.size := by simpa using hj
    obtain ⟨r1, r2⟩ := S'.row j hj'
    rw [Nat.zero_add, getElem!_pos d' j hj'] at r1
    rw [Nat.zero_add] at r2
    refine ⟨V d'[j], r1, r2, ?_, (hVO _).2⟩
    have := hVm d' w' S' d'[j]
    simpa using this
set_option maxRecDepth 100000 in
set_option maxHeartbeats 4000000 in
theorem sort_any (v : Value) (rs : List (List Val)) (w : World) (h : RowsL w v rs) (hn : rs.length * 24 ≤ 140737488355328) (hr : ∀ r ∈ rs, r.length * 32 ≤ 140737488355328) (hT : Lib.Utf8Tabs 0 1 w) :
    Calls Tryd.prog 15 #[v] w fun e w' => ∃ u out, e = .returned u ∧ IsSort rs rs.length out ∧ OwnL w.heap.size w' u out ∧ Below w.heap.size w w' := by
  have C1 : Hid (Calls Tryd.prog 26 #[v] w fun e w' => ∃ u, e = .returned u ∧ OwnL w.heap.size w' u rs ∧ Below w.heap.size w w') := copyRows_any v rs w h hn hr
  have HT : Hid (Lib.Utf8Tabs 0 1 w) := hT
  clear h hr hT
  go_enter Tryd.func15, Tryd.ntmps15
  go_wp2_with fail
  refine C1.out.mono ?_
  rintro e w1 ⟨u, rfl, hO, hb⟩
  obtain ⟨g, cap, rfl, hO'⟩ : ∃ g cap, u = .slice (some ⟨g, 0, none⟩) rs.length cap ∧ OwnL w.heap.size w1 u rs := by
    have hO2 := hO
    obtain ⟨g, cap, rfl, _⟩ := hO
    exact ⟨g, cap, rfl, hO2⟩
  have C2 : Hid (Calls Tryd.prog 27 #[.slice (some ⟨g, 0, none⟩) rs.length cap, .func (.func 28) #[] #[]] w1 fun e w' => e = .returned (.tuple #[]) ∧ ∃ out, IsSort rs rs.length out ∧ OwnL w.heap.size w' (.slice (some ⟨g, 0, none⟩) rs.length cap) out ∧ Below w.heap.size w w') := stable_rows w w1 g cap rs hb hO' HT.out hn
  clear hO hO' hb C1
  go_wp2_with fail
  refine C2.out.mono ?_
  rintro e w2 ⟨rfl, h2⟩
  have H2 : Hid _ := h2
  clear h2 C2
  go_wp2_with fail
  go_ret
  obtain ⟨out, h1, h2, h3⟩ := H2.out
  exact ⟨_, out, rfl, h1, h2, h3⟩
end Go.Proofs.YtmagfjlpjjmknaaDoor
