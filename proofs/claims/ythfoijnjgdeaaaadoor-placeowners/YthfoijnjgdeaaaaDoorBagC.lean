/- What slices.Clone and SameBag answer: whether two lists of rows are the same bag. -/
import Derived.Test.YthfoijnjgdeaaaaDoorBagB
namespace Go.Proofs.YthfoijnjgdeaaaaDoor
open Go.RowKit Go.Lib Go.Sort
set_option linter.unusedVariables false

/-- A list of rows' cells, of rows that lie in a world w0. -/
def RefsAt {w0 : World} (W : World) (blk off : Nat) (rs : List (RowRef w0)) : Prop := ∀ (j : Nat) (h : j < rs.length), W.cell? ⟨blk, off + j, none⟩ = some rs[j].at

theorem frozen_zero {w : World} {g : Nat} {cur : Array Value} {e : TypeId} (h : w.heap[g]? = some (.cells cur e (0, 0))) (j : Nat) : w.frozen? ⟨g, j, none⟩ = false := by
  simp [World.frozen?, h]
theorem info38 : ∃ i0, Tryd.prog.info? 25 = some i0 ∧ i0.zero = some (.slice none 0 0) ∧ i0.size = 1 ∧ i0.bytes = 24 := by
  have h1 : (Tryd.prog.info? 25).bind (·.zero) = some (.slice none 0 0) := by kernel_rfl
  have h2 : (Tryd.prog.info? 25).map (·.size) = some 1 := by kernel_rfl
  have h3 : (Tryd.prog.info? 25).map (·.bytes) = some 24 := by kernel_rfl
  generalize Tryd.prog.info? 25 = i at *
  cases i with
  | none => cases h1
  | some i => exact ⟨i, rfl, h1, Option.some.inj h2, Option.some.inj h3⟩
set_option maxHeartbeats 1000000 in
theorem clone_rows (w0 w : World) (b off c : Nat) (rs : List (RowRef w0)) (hc : RefsAt w b off rs) (hl : rs.length * 24 ≤ 140737488355328) :
    Calls Tryd.prog 40 #[.slice (some ⟨b, off, none⟩) rs.length c] w fun e w' => ∃ g cap, e = .returned (.slice (some ⟨g, 0, none⟩) rs.length cap) ∧ w.heap.size ≤ g ∧ g < w'.heap.size ∧
      (∀ (j : Nat) (h : j < rs.length), w'.cell? ⟨g, j, none⟩ = some rs[j].at ∧ w'.frozen? ⟨g, j, none⟩ = false) ∧ Below w.heap.size w w' := by
  obtain ⟨i0, hi, hz0, hz1, hz2⟩ := info38
  have hcon := AnyE.slices_Clone Tryd.cloneL i0 (.slice none 0 0) 1 24 hi hz0 hz1 hz2 rfl (by omega) Tryd.sizeOf25 b off rs.length c (rs.map RowRef.at) w (by simp) (by unfold maxLen; omega) hl
    (fun j u hj => by
      obtain ⟨h1, h2⟩ := List.getElem?_eq_some_iff.1 hj
      rw [List.getElem_map] at h2
      rw [← h2]
      exact hc j (by simpa using h1)) (fun u hu => by
      obtain ⟨r, _, rfl⟩ := List.mem_map.1 hu
      exact r.one)
  change Calls Tryd.prog 40 _ _ _ at hcon
  refine hcon.mono ?_
  rintro e w' ⟨v', rfl, ⟨hlen, h⟩, hne, hbw⟩
  rcases h with ⟨h, _⟩ | ⟨g, cap, cur, rfl, hg, hcell, hn, hcap, hsz, htake⟩
  · exact absurd h hne
  · have hlt : g < w'.heap.size := (Array.getElem?_eq_some_iff.1 hcell).1
    refine ⟨g, cap, rfl, hg, hlt, fun j hj => ⟨?_, frozen_zero hcell j⟩, hbw⟩
    have e1 : cur.toList[j]? = some rs[j].at := by
      have h3 : (cur.toList.take (rs.length * 1))[j]? = (rs.map RowRef.at)[j]? := congrArg (fun l : List Value => l[j]?) htake
      rw [List.getElem?_take_of_lt (by omega), List.getElem?_map, List.getElem?_eq_getElem hj] at h3
      exact h3
    simp only [World.cell?, hcell]
    simpa using e1

theorem lexBy_map {α β : Type} (cf : β → β → Int) (m : α → β) : ∀ xs ys : List α, lexBy (fun x y => cf (m x) (m y)) xs ys = lexBy cf (xs.map m) (ys.map m)
  | [], [] => rfl
  | [], _ :: _ => rfl
  | _ :: _, [] => rfl
  | x :: xs, y :: ys => by simp only [lexBy, List.map_cons, lexBy_map cf m xs ys]

/-- Sorted lists of rows are one just if their bags are. -/
theorem bag_iff {w0 : World} (xs ys xs' ys' : List (RowRef w0)) (hx : xs'.Perm xs) (hy : ys'.Perm ys) (sx : InOrder xs') (sy : InOrder ys') :
    lexBy (fun x y : Value × List Val => cmpWR x.2 y.2) (xs'.map (·.1)) (ys'.map (·.1)) = 0 ↔ (xs.map RowRef.vals).Perm (ys.map RowRef.vals) := by
  rw [lexBy_map cmpWR (fun x : Value × List Val => x.2), List.map_map, List.map_map, (tc_rows.list).zero]
  show xs'.map RowRef.vals = ys'.map RowRef.vals ↔ _
  constructor
  · intro e
    exact ((hx.map RowRef.vals).symm.trans (by rw [e])).trans (hy.map RowRef.vals)
  · intro hp
    refine sorted_one tc_rows _ _ ?_ ?_ (((hx.map RowRef.vals).trans hp).trans (hy.map RowRef.vals).symm)
    · rw [List.pairwise_map]; exact sx
    · rw [List.pairwise_map]; exact sy

set_option maxHeartbeats 1000000 in
set_option maxRecDepth 100000 in
theorem sameBag_some (w : World) (b1 o1 c1 b2 o2 c2 : Nat) (xs ys : List (RowRef w)) (hx : RefsAt w b1 o1 xs) (hy : RefsAt w b2 o2 ys) (hb2 : b2 < w.heap.size) (hxy : xs.length = ys.length) (hl : xs.length * 24 ≤ 140737488355328) :
    Calls Tryd.prog 24 #[.slice (some ⟨b1, o1, none⟩) xs.length c1, .slice (some ⟨b2, o2, none⟩) ys.length c2] w fun e w' => ∃ t, e = .returned (.bool t) ∧ (t = true ↔ (xs.map RowRef.vals).Perm (ys.map RowRef.vals)) ∧ Below w.heap.size w w' := by
  have cl1 := clone_rows w w b1 o1 c1 xs hx hl
  have hne : ((xs.length : Int) != (ys.length : Int)) = false := by rw [hxy]; simp
  have HX : Hid (xs.length = ys.length) := hxy
  clear hx hxy
  go_enter Tryd.func24, Tryd.ntmps24
  go_wp2_with fail
  refine cl1.mono ?_
  rintro e w1 ⟨g1, cap1, rfl, hg1, hg1', hc1, hbw1⟩
  go_wp2_with fail
  have cl2 := clone_rows w w1 b2 o2 c2 ys (fun j hj => by rw [hbw1.cell (p := ⟨b2, _, none⟩) hb2]; exact hy j hj) (by have := HX.out; omega)
  refine cl2.mono ?_
  rintro e w2 ⟨g2, cap2, rfl, hg2, hg2', hc2, hbw2⟩
  have hs1 := hbw1.size
  have hs2 := hbw2.size
  have hbw02 : Below w.heap.size w w2 := hbw1.trans (hbw2.mono hs1)
  clear hy cl1 cl2
  have so1 := sort_rows w w2 g1 cap1 xs hbw02 hg1 (by omega) (fun j hj => by
    rw [hbw2.cell (p := ⟨g1, _, none⟩) hg1', hbw2.frozen (p := ⟨g1, _, none⟩) hg1']; exact hc1 j hj) (by omega)
  clear hc1
  go_wp2_with fail
  refine so1.mono ?_
  rintro e w3 ⟨rfl, xs', px, sx, cx, ow3⟩
  clear so1
  have hs3 := ow3.size
  have hbw03 : Below w.heap.size w w3 := ow3.below hbw02 hg1 hbw02.size
  have so2 := sort_rows w w3 g2 cap2 ys hbw03 (by omega) (by omega) (fun j hj => by
    rw [World.cell?_of_block (w := w2) (ow3.block g2 hg2' (by omega)), World.frozen?_of_block (w := w2) (ow3.block g2 hg2' (by omega))]; exact hc2 j hj) (by have := HX.out; omega)
  clear hc2
  go_wp2_with fail
  refine so2.mono ?_
  rintro e w4 ⟨rfl, ys', py, sy, cy, ow4⟩
  clear so2
  have hs4 := ow4.size
  have hbw04 : Below w.heap.size w w4 := ow4.below hbw03 (by omega) hbw03.size
  have eg : ∀ args w, (callFunc 42 args).run Tryd.prog w = .ok (.enter 42 args) w := enters_of Tryd.func42 (by kernel_rfl) rfl
  have rx : RowsIs w4 g1 0 (xs'.map (·.1)) := by
    intro j hj
    have hj' : j < xs'.length := by simpa using hj
    refine ⟨?_, ?_⟩
    · rw [Nat.zero_add, World.cell?_of_block (w := w3) (ow4.block g1 (by omega) (by omega)), cx j hj', List.getElem_map]; rfl
    · rw [List.getElem_map]; exact xs'[j].2.below hbw04
  have ry : RowsIs w4 g2 0 (ys'.map (·.1)) := by
    intro j hj
    have hj' : j < ys'.length := by simpa using hj
    refine ⟨?_, ?_⟩
    · rw [Nat.zero_add, cy j hj', List.getElem_map]; rfl
    · rw [List.getElem_map]; exact ys'[j].2.below hbw04
  have cb := bags_some 42 cmpWR Grew Grew.mild g1 0 cap1 g2 0 cap2 (xs'.map (·.1)) (ys'.map (·.1)) w4 eg (fun v v' x y W h1 h2 hq => wholeRows_any v v' x y W (h1.below (Grew.mild.below _ _ hq)) (h2.below (Grew.mild.below _ _ hq))) rx ry
    (by rw [List.length_map, px.length_eq]; omega) (by rw [List.length_map, py.length_eq]; have := HX.out; omega) (by omega) (by omega)
  rw [List.length_map, List.length_map, px.length_eq, py.length_eq] at cb
  have hiff := bag_iff xs ys xs' ys' px py sx sy
  obtain ⟨R, hR⟩ : ∃ R, lexBy (fun x y : Value × List Val => cmpWR x.2 y.2) (xs'.map (·.1)) (ys'.map (·.1)) = R := ⟨_, rfl⟩
  rw [hR] at cb hiff
  have HI : Hid (R = 0 ↔ (xs.map RowRef.vals).Perm (ys.map RowRef.vals)) := hiff
  clear hR hiff rx ry cx cy px py sx sy ow3 ow4 eg
  go_wp2_with fail
  refine cb.mono ?_
  rintro e w5 ⟨rfl, hq⟩
  have hbw05 : Below w.heap.size w w5 := hbw04.trans ((Grew.mild.below _ _ hq).mono hbw04.size)
  clear cb hq
  go_wp2
  go_ret
  refine ⟨_, rfl, ?_, hbw05⟩
  rw [← HI.out]
  simp
end Go.Proofs.YthfoijnjgdeaaaaDoor
