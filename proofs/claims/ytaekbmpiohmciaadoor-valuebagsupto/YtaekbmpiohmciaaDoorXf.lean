/- What SameBag answers of any two lists of rows. -/
import Derived.Test.YtaekbmpiohmciaaDoorXe
namespace Go.Proofs.YtaekbmpiohmciaaDoor
open Go.Shelf Go.RowKit Go.Lib Go.Sort
set_option linter.unusedVariables false
set_option linter.unusedSimpArgs false
attribute [local go_sem ↓] Go.wp_at_zero Go.wp_at_succ
set_option maxRecDepth 100000 in
set_option maxHeartbeats 4000000 in
theorem ins_zero (p : Option Addr) (c : Nat) (fv : Value) (w : World) :
    Calls Tryd.prog 77 #[.slice p 0 c, .int .i64 0, .int .i64 0, fv] w fun e w' => e = .returned (.tuple #[]) ∧ Below w.heap.size w w' := by
  go_enter Tryd.func77, Tryd.ntmps77
  go_wp2
  refine wp_loop_rounds 1 ?_
  rw [rounds_succ]
  go_wp2
  go_end0
  exact ⟨rfl, Below.refl _ _⟩
set_option maxRecDepth 100000 in
set_option maxHeartbeats 4000000 in
theorem len_zero (w : World) :
    Calls Tryd.prog 71 #[.int .u64 0] w fun e w' => e = .returned (.int .i64 0) ∧ Below w.heap.size w w' := by
  go_enter Tryd.func71, Tryd.ntmps71
  go_wp2
  go_ret
  exact ⟨by kernel_rfl, Below.refl _ _⟩
set_option maxRecDepth 100000 in
set_option maxHeartbeats 4000000 in
theorem pdq_zero (p : Option Addr) (c : Nat) (fv : Value) (w : World) :
    Calls Tryd.prog 70 #[.slice p 0 c, .int .i64 0, .int .i64 0, .int .i64 0, fv] w fun e w' => e = .returned (.tuple #[]) ∧ Below w.heap.size w w' := by
  have C : Hid (∀ W, Calls Tryd.prog 77 #[.slice p 0 c, .int .i64 0, .int .i64 0, fv] W fun e w' => e = .returned (.tuple #[]) ∧ Below W.heap.size W w') := fun W => ins_zero p c fv W
  go_enter Tryd.func70, Tryd.ntmps70
  go_wp2
  refine wp_loop_rounds 1 ?_
  rw [rounds_succ]
  go_wp2_with fail
  refine (C.out _).mono ?_
  rintro e w1 ⟨rfl, hb⟩
  go_wp2
  exact bodyPost_ret (v := .tuple #[]) (by simp [results, Tryd.results70, go_sem]) rfl ⟨rfl, hb⟩
set_option maxRecDepth 100000 in
set_option maxHeartbeats 4000000 in
theorem sortF_zero (p : Option Addr) (c : Nat) (fv : Value) (w : World) :
    Calls Tryd.prog 60 #[.slice p 0 c, fv] w fun e w' => e = .returned (.tuple #[]) ∧ Below w.heap.size w w' := by
  have C1 : Hid (∀ W, Calls Tryd.prog 71 #[.int .u64 0] W fun e w' => e = .returned (.int .i64 0) ∧ Below W.heap.size W w') := len_zero
  have C2 : Hid (∀ W, Calls Tryd.prog 70 #[.slice p 0 c, .int .i64 0, .int .i64 0, .int .i64 0, fv] W fun e w' => e = .returned (.tuple #[]) ∧ Below W.heap.size W w') := fun W => pdq_zero p c fv W
  go_enter Tryd.func60, Tryd.ntmps60
  go_wp2_with fail
  refine (C1.out _).mono ?_
  rintro e w1 ⟨rfl, hb⟩
  go_wp2_with fail
  refine (C2.out _).mono ?_
  rintro e w2 ⟨rfl, hb2⟩
  go_wp2
  go_end0
  exact ⟨rfl, hb.trans (hb2.mono hb.size)⟩
set_option maxRecDepth 100000 in
set_option maxHeartbeats 4000000 in
theorem clone_zero (p : Option Addr) (c : Nat) (w : World) :
    Calls Tryd.prog 59 #[.slice p 0 c] w fun e w' => ∃ q d, e = .returned (.slice q 0 d) ∧ Below w.heap.size w w' := by
  have q := fun W => Lib.run_eql_slice_nil (P := Tryd.prog) W 34 38 p 0 c 0 0 Tryd.underlying34
  cases p with
  | none =>
    simp only [Option.isNone_none] at q
    go_enter Tryd.func59, Tryd.ntmps59
    go_wp2
    go_ret
    exact ⟨_, _, rfl, Below.refl _ _⟩
  | some a =>
    simp only [Option.isNone_some] at q
    obtain ⟨i0, hi, hz0, hz1, hz2⟩ := info38
    have hl : (loadCells a 0).run Tryd.prog (w.alloc (.cells #[] 38)) = .ok #[] (w.alloc (.cells #[] 38)) := by simpa using run_loadCells_list (P := Tryd.prog) (w.alloc (.cells #[] 38)) a [] (by simp)
    have e1 : (Builtin.append_ #[34, 34] 34 #[.slice (some ⟨w.heap.size, 0, none⟩) 0 0, .slice (some a) 0 c]).run Tryd.prog (w.alloc (.cells #[] 38)) = .ok (.slice (some ⟨w.heap.size, 0, none⟩) 0 0) (w.alloc (.cells #[] 38)) := by
      simp [Builtin.append_, run_underlying Tryd.underlying34, sizeOf, typeInfo, hi, Builtin.lenOf, Builtin.firstCells, hl, storeCells]
    have E1 : Hid _ := e1
    clear e1 hl hi hz0 hz1 hz2
    go_enter Tryd.func59, Tryd.ntmps59
    go_wp2_with (at_builtin; refine wpList_append_run _ rfl _ _ 34 34 rfl _ _ _ _ rfl rfl E1.out ?_)
    go_ret
    exact ⟨_, _, rfl, (Below.refl _ _).alloc (Nat.le_refl _) _⟩
def mkRef {w : World} (u : Value) (r : List Val) (h : RowV w u r) : RowRef w := ⟨(u, r), h⟩
theorem mkRef_vals {w : World} (u : Value) (r : List Val) (h : RowV w u r) : (mkRef u r h).vals = r := rfl
theorem mkRef_at {w : World} (u : Value) (r : List Val) (h : RowV w u r) : (mkRef u r h).at = u := rfl
/-- The rows of a list, each with its place. -/
theorem refs_of {w : World} {b o : Nat} {rs : List (List Val)} (h : ∀ j (h : j < rs.length), ∃ u, w.cell? ⟨b, o + j, none⟩ = some u ∧ RowV w u rs[j]) : ∃ xs : List (RowRef w), xs.length = rs.length ∧ xs.map RowRef.vals = rs ∧ RefsAt w b o xs := by
  refine ⟨List.ofFn fun j : Fin rs.length => mkRef (Classical.choose (h j j.2)) rs[j] (Classical.choose_spec (h j j.2)).2, by simp, ?_, ?_⟩
  · apply List.ext_getElem
    · simp
    · intro i h1 h2
      simp [mkRef_vals]
  · intro j hj
    have hj' : j < rs.length := by simpa using hj
    rw [List.getElem_ofFn, mkRef_at]
    exact (Classical.choose_spec (h j hj')).1
set_option maxRecDepth 100000 in
set_option maxHeartbeats 4000000 in
theorem sameBag_any (v1 v2 : Value) (xs ys : List (List Val)) (w : World) (h1 : RowsL w v1 xs) (h2 : RowsL w v2 ys) (hl : xs.length * 24 ≤ 140737488355328) :
    Calls Tryd.prog 34 #[v1, v2] w fun e w' => ∃ t, e = .returned (.bool t) ∧ (t = true ↔ xs.Perm ys) ∧ Below w.heap.size w w' := by
  obtain ⟨p, c, rfl, hl1, hp⟩ := h1
  obtain ⟨q, d, rfl, hl2, hq⟩ := h2
  by_cases hlen : xs.length = ys.length
  · by_cases h0 : 0 < xs.length
    · obtain ⟨b1, o1, rfl, hB1, hr1⟩ := hp h0
      obtain ⟨b2, o2, rfl, hB2, hr2⟩ := hq (by omega)
      obtain ⟨X, x1, x2, x3⟩ := refs_of hr1
      obtain ⟨Y, y1, y2, y3⟩ := refs_of hr2
      have := sameBag_some w b1 o1 c b2 o2 d X Y x3 y3 hB2 (by omega) (by omega)
      rwa [x1, y1, x2, y2] at this
    · have e1 : xs = [] := List.eq_nil_of_length_eq_zero (by omega)
      have e2 : ys = [] := List.eq_nil_of_length_eq_zero (by omega)
      subst e1 e2
      have C1 : Hid (∀ p c W, Calls Tryd.prog 59 #[.slice p 0 c] W fun e w' => ∃ q d, e = .returned (.slice q 0 d) ∧ Below W.heap.size W w') := clone_zero
      have C2 : Hid (∀ p c fv W, Calls Tryd.prog 60 #[.slice p 0 c, fv] W fun e w' => e = .returned (.tuple #[]) ∧ Below W.heap.size W w') := sortF_zero
      clear hp hq hl hl1 hl2 hlen h0
      simp only [List.length_nil]
      go_enter Tryd.func34, Tryd.ntmps34
      go_wp2_with fail
      refine (C1.out _ _ _).mono ?_
      rintro e w1 ⟨p1, d1, rfl, hb1⟩
      go_wp2_with fail
      refine (C1.out _ _ _).mono ?_
      rintro e w2 ⟨p2, d2, rfl, hb2⟩
      go_wp2_with fail
      refine (C2.out _ _ _ _).mono ?_
      rintro e w3 ⟨rfl, hb3⟩
      go_wp2_with fail
      refine (C2.out _ _ _ _).mono ?_
      rintro e w4 ⟨rfl, hb4⟩
      go_wp2_with fail
      refine (bags_zero 61 p1 p2 d1 d2 w4).mono ?_
      rintro e w5 ⟨rfl, rfl⟩
      go_wp2_with fail
      go_ret
      have h2 := hb1.trans (hb2.mono hb1.size)
      have h3 := h2.trans (hb3.mono h2.size)
      have h4 := h3.trans (hb4.mono h3.size)
      exact ⟨true, rfl, by simp, h4⟩
  · have hne : ((xs.length : Int) != (ys.length : Int)) = true := by rw [bne_iff_ne]; omega
    have HN : Hid (¬ xs.Perm ys) := fun h => hlen h.length_eq
    clear hp hq hlen
    go_enter Tryd.func34, Tryd.ntmps34
    go_wp2_with fail
    go_ret
    exact ⟨false, rfl, by simpa using HN.out, Below.refl _ _⟩
end Go.Proofs.YtaekbmpiohmciaaDoor
