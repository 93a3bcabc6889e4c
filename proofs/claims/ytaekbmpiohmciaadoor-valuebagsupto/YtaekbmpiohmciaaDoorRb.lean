/- What the reference's order, runes and Runes answer. -/
import Derived.Test.YtaekbmpiohmciaaDoorCmp
import Derived.Lib.OthersKept
import Derived.WalkKit
import Derived.WalkSpells
import Derived.Maps.AppendAt
namespace Go.Proofs.YtaekbmpiohmciaaDoor
open Go.RowKit Go.Lib
set_option linter.unusedVariables false

/-- What order answers. -/
def ordB (l m : Bool) : Int := if l then -1 else if m then 1 else 0
set_option maxHeartbeats 400000 in
theorem order_any (l m : Bool) (w : World) :
    Calls Tryd.prog 46 #[.bool l, .bool m] w fun e w' => e = .returned (.int .i64 (ordB l m)) ∧ w' = w := by
  cases l <;> cases m
  all_goals
    go_enter Tryd.func46, Tryd.ntmps46
    go_wp2
    go_ret
    exact ⟨rfl, rfl⟩
theorem ordB_cmpI (a b : Int) : ordB (decide (a < b)) (decide (b < a)) = cmpI a b := by
  unfold ordB cmpI
  by_cases h : a < b <;> by_cases h' : b < a <;> simp [h, h']
theorem ordB_cmpB (a b : Bool) : ordB (!a && b) (a && !b) = cmpB a b := by cases a <;> cases b <;> rfl

/-- The runes' cells. -/
def flatR (ls : List Int) : List Value := ls.map fun x => .int .i32 x
theorem flatR_get (ls : List Int) (j : Nat) (h : j < ls.length) : (flatR ls)[j]? = some (.int .i32 ls[j]) := by
  simp [flatR, h]
theorem info21 : (Tryd.prog.info? 21).map (fun i => (i.zero, i.size, i.bytes)) = some (some (.int .i32 0), 1, 4) := by kernel_rfl
theorem ownsRow_iterAt {w : World} {base : Nat} {e : TypeId} {size : Nat} {v : Value} {n : Nat} {xs : List Value} (h : w.ownsRow base e size v n xs) {k : Nat} (hk : k < base) (s : ByteArray) (p : Nat) : (w.iterAt k s p).ownsRow base e size v n xs := by
  obtain ⟨h1, h2⟩ := h
  refine ⟨h1, ?_⟩
  rcases h2 with h2 | ⟨g, cap, cur, a, b, c, d⟩
  · exact .inl h2
  · exact .inr ⟨g, cap, cur, a, b, by rw [Lib.iterAt_other _ _ _ _ _ (by omega)]; exact c, d⟩
theorem cell_one_new (w : World) (a : Value) (t : TypeId) : ∀ j u, [a][j]? = some u → (w.alloc (.cells #[a] t)).cell? ((⟨w.heap.size, 0, none⟩ : Addr).add j) = some u := by
  intro j u hj
  match j, hj with
  | 0, hj => simp at hj; subst hj; simp [Addr.add]
  | j + 1, hj => simp at hj
theorem lt_of_block {w : World} {k : Nat} {o : Obj} (h : w.heap[k]? = some o) : k < w.heap.size := (Array.getElem?_eq_some_iff.1 h).1
/-- A slice of runes. -/
def RunesV (w : World) (v : Value) (ls : List Int) : Prop :=
  (v = .slice none 0 0 ∧ ls = []) ∨ ∃ g cap, v = .slice (some ⟨g, 0, none⟩) ls.length cap ∧ (∀ j (h : j < ls.length), w.cell? ⟨g, j, none⟩ = some (.int .i32 ls[j])) ∧ g < w.heap.size ∧ ls.length ≤ cap ∧ cap ≤ maxLen
theorem runesV_own {w : World} {base : Nat} {v : Value} {ls : List Int} (h : w.ownsRow base 21 1 v ls.length (flatR ls)) : RunesV w v ls := by
  obtain ⟨h1, ⟨rfl, h2⟩ | ⟨g, cap, cur, rfl, hb, hg, hc1, hc2, hc3, hc4⟩⟩ := h
  · exact .inl ⟨rfl, List.eq_nil_of_length_eq_zero h2⟩
  · refine .inr ⟨g, cap, rfl, ?_, (Array.getElem?_eq_some_iff.1 hg).1, hc1, hc2⟩
    intro j hj
    have hw : w.ownsRow base 21 1 (.slice (some ⟨g, 0, none⟩) ls.length cap) ls.length (flatR ls) := ⟨h1, .inr ⟨g, cap, cur, rfl, hb, hg, hc1, hc2, hc3, hc4⟩⟩
    rw [hw.cellAt j (by omega)]
    exact flatR_get ls j hj
theorem runesV_below {w w' : World} {n : Nat} {v : Value} {ls : List Int} (h : RunesV w v ls) (hb : Below n w w') (hn : w.heap.size ≤ n) : RunesV w' v ls := by
  rcases h with h | ⟨g, cap, rfl, h1, h2, h3, h4⟩
  · exact .inl h
  · exact .inr ⟨g, cap, rfl, fun j hj => by rw [hb.cell (by simp; omega)]; exact h1 j hj, by have := hb.size; omega, h3, h4⟩

set_option maxRecDepth 100000 in
set_option maxHeartbeats 2000000 in
theorem runesRef_any (s : ByteArray) (w : World) (hs : s.size ≤ 1048576) :
    Calls Tryd.prog 47 #[.string s] w fun e w' => ∃ v, e = .returned v ∧ RunesV w' v (runesOf s) ∧ Below w.heap.size w w' := by
  obtain ⟨i0, hi, hz0, hz1, hz2⟩ := info_parts info21
  go_enter Tryd.func47, Tryd.ntmps47
  go_wp2
  go_loopg [3] s.size (fun gf v wx => ∃ (pos : Nat) (ls : List Int), wx.heap[w.heap.size]? = some (.stringIter s pos) ∧ wx.ownsRow (w.heap.size + 1) 21 1 v ls.length (flatR ls) ∧ Below w.heap.size w wx ∧ Hid (ls ++ rsAt s pos = runesOf s) ∧ s.size ≤ pos + gf ∧ ls.length ≤ pos)
  case atStart => exact ⟨0, [], World.iter_heap w s 0, World.ownsRow_nil _ _ _ _, (Below.refl _ _).alloc (Nat.le_refl _) _, (by show _ = _; rw [rsAt_zero]; simp), by omega, by simp⟩
  case round =>
    obtain ⟨pos, ls, hit, hown, hbw, HS, hb, hlen⟩ := hrel
    by_cases hp : pos < s.size
    · obtain ⟨g', rfl⟩ : ∃ g', gk = g' + 1 := ⟨gk - 1, by omega⟩
      have hnx : ∀ ty, (Instr.next (.pointer (some ⟨w.heap.size, 0, none⟩)) true ty).run Tryd.prog wr = _ := fun ty => Lib.run_next_any_at wr w.heap.size s pos ty hit hp
      have hwd := Lib.width_pos s pos
      have hS := HS.out
      rw [rsAt_cons s pos hp] at hS
      obtain ⟨R, hR⟩ : ∃ R, (Utf8.decode s pos).1 = R := ⟨_, rfl⟩
      obtain ⟨K, hK⟩ : ∃ K, (Utf8.decode s pos).2 = K := ⟨_, rfl⟩
      rw [hR, hK] at hnx hS
      rw [hK] at hwd
      have hit2 := Lib.iterAt_heap wr w.heap.size s pos (pos + K) hit
      have hbw2 := Lib.below_iterAt hbw (k := w.heap.size) (Nat.le_refl _) s (pos + K)
      have hown2 := ownsRow_iterAt hown (k := w.heap.size) (by omega) s (pos + K)
      obtain ⟨W1, hW1⟩ : ∃ W1, wr.iterAt w.heap.size s (pos + K) = W1 := ⟨_, rfl⟩
      rw [hW1] at hnx hit2 hbw2 hown2
      have hBlt := lt_of_block hit2
      have HS2 : Hid (ls ++ (R : Int) :: rsAt s (pos + K) = runesOf s) := hS
      clear hW1 hit hown hbw hS hR hK HS
      go_wp2_with (at_builtin; refine wpList_append_own _ rfl _ _ 60 rfl (w.heap.size + 1) 21 i0 (.int .i32 0) 1 4 Tryd.underlying60 hi hz0 hz1 hz2 rfl (by decide) _ _ _ rfl (hown2.alloc _) ⟨_, 0, none⟩ 1 1 [.int .i32 (R : Int)] rfl rfl (cell_one_new _ _ _) (fun x hx => by simp at hx; subst hx; rfl) (by unfold maxLen; omega) (by omega) (by simp; omega) ?_; intro v' w3 hown' hgrow3 hnil3)
      have hit3 : w3.heap[w.heap.size]? = some (.stringIter s (pos + K)) := by
        rw [hgrow3.block w.heap.size (by simp; omega) (fun h => by have := (hown2.lt _ h.symm).1; omega), Below.heap_alloc _ _ _ hBlt]; exact hit2
      have hbw3 : Below w.heap.size w w3 := Below.grown (hbw2.alloc (by omega) _) hgrow3 (by simp; omega) (fun j hj => by have := (hown2.lt _ hj).1; omega)
      go_roundg g'
      case measure => omega
      case rel => exact ⟨pos + K, ls ++ [(R : Int)], hit3, by rw [List.length_append, show flatR (ls ++ [(R : Int)]) = flatR ls ++ [.int .i32 (R : Int)] by simp [flatR]]; exact hown', hbw3, (by show _ = _; rw [← HS2.out, List.append_assoc]; simp), by omega, by simp; omega⟩
    · have hnx : ∀ ty, (Instr.next (.pointer (some ⟨w.heap.size, 0, none⟩)) true ty).run Tryd.prog wr = _ := fun ty => Lib.run_next_end_at wr w.heap.size s pos ty hit (by omega)
      have HE : Hid (ls = runesOf s) := by
        have := HS.out
        rw [rsAt_nil s pos hp, List.append_nil] at this
        exact this
      clear HS
      go_wp2
      go_ret
      exact ⟨_, rfl, by rw [← HE.out]; exact runesV_own hown, hbw⟩
theorem runesOf_le (s : ByteArray) : (runesOf s).length ≤ s.size := by
  have : ∀ f pos, (runesFrom s f pos).length ≤ f := by
    intro f
    induction f with
    | zero => intro pos; simp [runesFrom]
    | succ f ih =>
      intro pos
      unfold runesFrom
      split
      · have := ih (pos + (Utf8.decode s pos).2)
        simp only [List.length_cons]
        omega
      · simp
  exact this s.size 0
set_option maxHeartbeats 1000000 in
theorem runesCount_any (s : ByteArray) (w : World) (hs : s.size ≤ 1048576) :
    Calls Tryd.prog 17 #[.string s] w fun e w' => e = .returned (.int .i64 (Lib.runeCount s)) ∧ Below w.heap.size w w' := by
  have C : Hid (∀ W, Calls Tryd.prog 47 #[.string s] W fun e w' => ∃ v, e = .returned v ∧ RunesV w' v (runesOf s) ∧ Below W.heap.size W w') := fun W => runesRef_any s W hs
  have hl := runesOf_length s
  obtain ⟨n, hn⟩ : ∃ n, Lib.runeCount s = n := ⟨_, rfl⟩
  rw [hn] at hl ⊢
  have HL : Hid ((runesOf s).length = n) := hl
  clear hs hl hn
  go_enter Tryd.func17, Tryd.ntmps17
  go_wp2_with fail
  refine (C.out _).mono ?_
  rintro e w1 ⟨v, rfl, hv, hb⟩
  have hl := HL.out
  clear HL C
  rcases hv with ⟨rfl, e0⟩ | ⟨g, cap, rfl, h1, h2, h3, h4⟩
  · rw [e0] at hl
    simp at hl
    subst hl
    go_wp2
    go_ret
    exact ⟨rfl, hb⟩
  · rw [hl]
    clear h1 h3 h4 hl
    go_wp2
    go_ret
    exact ⟨rfl, hb⟩
end Go.Proofs.YtaekbmpiohmciaaDoor
