/- What the reference's Compare answers: what Compare answers. -/
import Derived.Test.YtaekbmpiohmciaaDoorRb
import Derived.Deep.RegionHeld3
import Derived.Deep.DrawnRows
import Derived.Deep.QuietTactic
import Derived.BigQuiet
namespace Go.Proofs.YtaekbmpiohmciaaDoor
open Go.RowKit Go.Lib
set_option linter.unusedVariables false
attribute [local go_sem ↓] Go.wp_at_zero Go.wp_at_succ

theorem cmpL_drop (xs ys : List Int) (i : Nat) (hx : i < xs.length) (hy : i < ys.length) : cmpL (xs.drop i) (ys.drop i) = if xs[i] = ys[i] then cmpL (xs.drop (i + 1)) (ys.drop (i + 1)) else cmpI xs[i] ys[i] := by
  rw [List.drop_eq_getElem_cons hx, List.drop_eq_getElem_cons hy]
  rfl
theorem cmpL_over (xs ys : List Int) (i : Nat) (h1 : i ≤ xs.length) (h2 : i ≤ ys.length) (h : ¬ i < xs.length ∨ ¬ i < ys.length) : cmpL (xs.drop i) (ys.drop i) = cmpI xs.length ys.length := by
  by_cases hx : i < xs.length
  · have hy : ¬ i < ys.length := by
      rcases h with h | h
      · exact absurd hx h
      · exact h
    rw [List.drop_eq_getElem_cons hx, List.drop_of_length_le (show ys.length ≤ i by omega)]
    exact cmpI_gt (by omega)
  · rw [List.drop_of_length_le (show xs.length ≤ i by omega)]
    by_cases hy : i < ys.length
    · rw [List.drop_eq_getElem_cons hy]
      exact cmpI_lt (by omega)
    · rw [List.drop_of_length_le (show ys.length ≤ i by omega)]
      exact cmpI_eq (by omega) (by omega)
theorem ordB_nat (a b : Nat) : ordB (decide (a < b)) (decide (b < a)) = cmpI a b := by
  rw [← ordB_cmpI]
  congr 1 <;> simp
/-- A slice of runes, in one form. -/
def RunesP (w : World) (v : Value) (ls : List Int) : Prop :=
  ∃ p cap, v = .slice p ls.length cap ∧ ∀ j (h : j < ls.length), ∃ g, p = some ⟨g, 0, none⟩ ∧ g < w.heap.size ∧ w.cell? ⟨g, j, none⟩ = some (.int .i32 ls[j])
theorem runesV_p {w : World} {v : Value} {ls : List Int} (h : RunesV w v ls) : RunesP w v ls := by
  rcases h with ⟨rfl, rfl⟩ | ⟨g, cap, rfl, h1, h2, h3, h4⟩
  · exact ⟨none, 0, rfl, fun j hj => by simp at hj⟩
  · exact ⟨_, cap, rfl, fun j hj => ⟨g, rfl, h2, h1 j hj⟩⟩

theorem sizeN (W : World) (o : Obj) : (W.alloc o).heap.size = W.heap.size + 1 := by simp
theorem cell_at_new (W : World) (vs : Array Value) (t : TypeId) (i : Nat) (v : Value) (h : vs[i]? = some v) : (W.alloc (.cells vs t)).cell? ⟨W.heap.size, i, none⟩ = some v := by
  have h2 : (W.alloc (.cells vs t)).heap[W.heap.size]? = some (.cells vs t) := heap_alloc_new W _
  unfold World.cell?
  rw [h2]
  exact h
set_option maxRecDepth 100000 in
set_option maxHeartbeats 4000000 in
theorem compareRef_text (b b' : Bool) (n n' : Int) (s s' : ByteArray) (w : World) (hs : s.size ≤ 1048576) (hs' : s'.size ≤ 1048576) :
    Calls Tryd.prog 13 #[.agg #[.int .u8 3, .bool b, .int .i64 n, .string s], .agg #[.int .u8 3, .bool b', .int .i64 n', .string s']] w
      fun e w' => e = .returned (.int .i64 (cmpS s s')) ∧ Below w.heap.size w w' := by
  obtain ⟨R, hR⟩ : ∃ R, cmpS s s' = R := ⟨_, rfl⟩
  have HR : Hid (cmpL (runesOf s) (runesOf s') = R) := hR
  rw [hR]
  clear hR
  have C : Hid (∀ (t : ByteArray) (W : World), t.size ≤ 1048576 → Calls Tryd.prog 47 #[.string t] W fun e w' => ∃ v, e = .returned v ∧ RunesV w' v (runesOf t) ∧ Below W.heap.size W w') := fun t W ht => runesRef_any t W ht
  have S1 : Hid (s.size ≤ 1048576) := hs
  have S2 : Hid (s'.size ≤ 1048576) := hs'
  clear hs hs'
  go_enter Tryd.func13, Tryd.ntmps13
  go_wp2
  have c1 : ((w.alloc (.cells #[.int .u8 3, .bool b, .int .i64 n, .string s] 24)).alloc (.cells #[.int .u8 3, .bool b', .int .i64 n', .string s'] 24)).cell? ⟨w.heap.size, 3, none⟩ = some (.string s) := by
    rw [((Below.refl _ _).alloc (Nat.le_refl _) _).cell (by rw [sizeN]; simp)]
    exact cell_at_new _ _ _ _ _ rfl
  have c2 : ((w.alloc (.cells #[.int .u8 3, .bool b, .int .i64 n, .string s] 24)).alloc (.cells #[.int .u8 3, .bool b', .int .i64 n', .string s'] 24)).cell? ⟨w.heap.size + 1, 3, none⟩ = some (.string s') := by
    have := cell_at_new (w.alloc (.cells #[.int .u8 3, .bool b, .int .i64 n, .string s] 24)) #[.int .u8 3, .bool b', .int .i64 n', .string s'] 24 3 (.string s') rfl
    rwa [sizeN] at this
  have hb0 : Below w.heap.size w ((w.alloc (.cells #[.int .u8 3, .bool b, .int .i64 n, .string s] 24)).alloc (.cells #[.int .u8 3, .bool b', .int .i64 n', .string s'] 24)) := below_two _ _
  have hz0 : ((w.alloc (.cells #[.int .u8 3, .bool b, .int .i64 n, .string s] 24)).alloc (.cells #[.int .u8 3, .bool b', .int .i64 n', .string s'] 24)).heap.size = w.heap.size + 1 + 1 := by rw [sizeN, sizeN]
  generalize (w.alloc (.cells #[.int .u8 3, .bool b, .int .i64 n, .string s] 24)).alloc (.cells #[.int .u8 3, .bool b', .int .i64 n', .string s'] 24) = W0 at c1 c2 hb0 hz0 ⊢
  have HZ : Hid (W0.heap.size = w.heap.size + 1 + 1) := hz0
  have HB0 : Hid (Below w.heap.size w W0) := hb0
  clear hz0 hb0
  go_region_held3 (fun w' => w'.cell? ⟨w.heap.size, 3, none⟩ = some (.string s) ∧ w'.cell? ⟨w.heap.size + 1, 3, none⟩ = some (.string s'))
    (first
      | (go_split_ands; refine ⟨?_, ?_⟩ <;> (rw [hb2.cell (by have h1 : W0.heap.size ≤ w1.heap.size := hb1.size; have h2 := HZ.out; simp; omega)]; assumption))
      | (go_split_ands; refine ⟨?_, ?_⟩ <;> (rw [hb1.cell (by have h2 := HZ.out; simp; omega)]; assumption))
      | exact ⟨c1, c2⟩
      | go_keep)
    ((first
      | (go_at_call 47; have hmark := hb1.size; clear hmark; refine (C.out _ _ S2.out).mono ?_; rintro e w2 ⟨v2, rfl, hv2, hb2⟩)
      | (go_at_call 47; refine (C.out _ _ S1.out).mono ?_; rintro e w1 ⟨v1, rfl, hv1, hb1⟩)))
  have hsz1 : W0.heap.size ≤ w1.heap.size := hb1.size
  have hbe : Below w.heap.size w w2 := ((below_drewN HB0.out 1).trans (hb1.mono (by have := HZ.out; show _ ≤ W0.heap.size; omega))).trans (hb2.mono (by have := HZ.out; omega))
  have hp1 := runesV_p (runesV_below hv1 hb2 (Nat.le_refl _))
  have hp2 := runesV_p hv2
  have HB : Hid (Below w.heap.size w w2) := hbe
  clear hbe hv1 hv2 hb1 hb2 C
  have L1 := runesOf_le s
  have L2 := runesOf_le s'
  generalize runesOf s = xs at hp1 L1 HR
  generalize runesOf s' = ys at hp2 L2 HR
  have lx : xs.length ≤ 1048576 := by have := S1.out; omega
  have ly : ys.length ≤ 1048576 := by have := S2.out; omega
  clear S1 S2 L1 L2
  obtain ⟨p, cp, rfl, hp⟩ := hp1
  obtain ⟨q, cq, rfl, hq⟩ := hp2
  have HP : Hid (∀ j (h : j < xs.length), ∃ g, p = some ⟨g, 0, none⟩ ∧ g < w2.heap.size ∧ w2.cell? ⟨g, j, none⟩ = some (.int .i32 xs[j])) := hp
  have HQ : Hid (∀ j (h : j < ys.length), ∃ g, q = some ⟨g, 0, none⟩ ∧ g < w2.heap.size ∧ w2.cell? ⟨g, j, none⟩ = some (.int .i32 ys[j])) := hq
  clear hp hq
  go_wp2
  go_loopg [7] xs.length (fun gf s7 wx => ∃ i : Nat, s7 = .int .i64 i ∧ i ≤ xs.length ∧ i ≤ ys.length ∧ Below w2.heap.size w2 wx ∧ Hid (cmpL (xs.drop i) (ys.drop i) = R) ∧ xs.length ≤ i + gf)
  case atStart => exact ⟨0, rfl, by omega, by omega, Below.refl _ _, HR, by omega⟩
  case round =>
    obtain ⟨i, rfl, hix, hiy, hbw, HL, hgf⟩ := hrel
    clear HR
    by_cases h1 : i < xs.length
    · by_cases h2 : i < ys.length
      · obtain ⟨g', rfl⟩ : ∃ g', gk = g' + 1 := ⟨gk - 1, by omega⟩
        obtain ⟨gx, rfl, hgx, rx⟩ := HP.out i h1
        obtain ⟨gy, rfl, hgy, ry⟩ := HQ.out i h2
        have hl := HL.out
        rw [cmpL_drop xs ys i h1 h2] at hl
        obtain ⟨x, hx⟩ : ∃ x, xs[i] = x := ⟨_, rfl⟩
        obtain ⟨y, hy⟩ : ∃ y, ys[i] = y := ⟨_, rfl⟩
        rw [hx] at rx hl
        rw [hy] at ry hl
        have rx2 : wr.cell? ⟨gx, i, none⟩ = some (.int .i32 x) := by rw [hbw.cell hgx]; exact rx
        have ry2 : wr.cell? ⟨gy, i, none⟩ = some (.int .i32 y) := by rw [hbw.cell hgy]; exact ry
        clear hx hy rx ry HL
        by_cases hxy : x = y
        · subst hxy
          rw [if_pos rfl] at hl
          have HL : Hid (cmpL (xs.drop (i + 1)) (ys.drop (i + 1)) = R) := hl
          clear hl
          have ht : (x != x) = false := by simp
          go_wp2
          go_quiet (fail)
          go_wp2
          go_roundg g'
          case measure => omega
          case rel => exact ⟨i + 1, by go_num, by omega, by omega, below_drewN hbw _, HL, by omega⟩
        · rw [if_neg hxy] at hl
          have ht : (x != y) = true := bne_iff_ne.2 hxy
          have HL : Hid (ordB (decide (x < y)) (decide (y < x)) = R) := by
            show _ = _
            rw [ordB_cmpI]; exact hl
          have CO : Hid (∀ l m W, Calls Tryd.prog 46 #[.bool l, .bool m] W fun e w' => e = .returned (.int .i64 (ordB l m)) ∧ w' = W) := order_any
          clear hl hxy
          go_wp2
          go_quiet (fail)
          go_wp2
          go_region_held3 (fun w' => w'.cell? ⟨gx, i, none⟩ = some (.int .i32 x) ∧ w'.cell? ⟨gy, i, none⟩ = some (.int .i32 y))
            (first
              | exact ⟨rx2, ry2⟩
              | assumption
              | go_keep)
            ((go_at_call 46; refine (CO.out _ _ _).mono ?_; rintro e w' ⟨rfl, rfl⟩))
          go_wp2
          go_ret
          exact ⟨retI HL.out, HB.out.trans ((below_drewN hbw _).mono HB.out.size)⟩
      · have HL2 : Hid (ordB (decide (xs.length < ys.length)) (decide (ys.length < xs.length)) = R) := by
          show _ = _
          rw [ordB_nat, ← HL.out, cmpL_over xs ys i hix hiy (.inr h2)]
        have CO : Hid (∀ l m W, Calls Tryd.prog 46 #[.bool l, .bool m] W fun e w' => e = .returned (.int .i64 (ordB l m)) ∧ w' = W) := order_any
        clear HL HP HQ
        go_wp2_with (go_at_call 46; refine (CO.out _ _ _).mono ?_; rintro e w' ⟨rfl, rfl⟩)
        go_ret
        exact ⟨retI HL2.out, HB.out.trans (hbw.mono HB.out.size)⟩
    · have HL2 : Hid (ordB (decide (xs.length < ys.length)) (decide (ys.length < xs.length)) = R) := by
        show _ = _
        rw [ordB_nat, ← HL.out, cmpL_over xs ys i hix hiy (.inl h1)]
      have CO : Hid (∀ l m W, Calls Tryd.prog 46 #[.bool l, .bool m] W fun e w' => e = .returned (.int .i64 (ordB l m)) ∧ w' = W) := order_any
      clear HL HP HQ
      go_wp2_with (go_at_call 46; refine (CO.out _ _ _).mono ?_; rintro e w' ⟨rfl, rfl⟩)
      go_ret
      exact ⟨retI HL2.out, HB.out.trans (hbw.mono HB.out.size)⟩
theorem ordB_b (a b : Bool) : ordB (!a && b) (a && !b) = cmpB a b := ordB_cmpB a b
set_option maxHeartbeats 2000000 in
theorem compareRef_any (k k' : Int) (b b' : Bool) (n n' : Int) (s s' : ByteArray) (w : World) (hs : s.size ≤ 1048576) (hs' : s'.size ≤ 1048576) :
    Calls Tryd.prog 13 #[.agg #[.int .u8 k, .bool b, .int .i64 n, .string s], .agg #[.int .u8 k', .bool b', .int .i64 n', .string s']] w
      fun e w' => e = .returned (.int .i64 (cmpV ⟨k, b, n, s⟩ ⟨k', b', n', s'⟩)) ∧ Below w.heap.size w w' := by
  have CO : Hid (∀ l m W, Calls Tryd.prog 46 #[.bool l, .bool m] W fun e w' => e = .returned (.int .i64 (ordB l m)) ∧ w' = W) := order_any
  by_cases hk : k = k'
  · subst hk
    have ht : (k != k) = false := by simp
    by_cases h1 : k = 1
    · subst h1
      have hv : cmpV ⟨1, b, n, s⟩ ⟨1, b', n', s'⟩ = cmpB b b' := by simp [cmpV]
      rw [hv]
      clear hv hs hs'
      cases b <;> cases b'
      all_goals
        go_enter Tryd.func13, Tryd.ntmps13
        go_wp2_with (go_at_call 46; refine (CO.out _ _ _).mono ?_; rintro e w' ⟨rfl, rfl⟩)
        go_ret
        exact ⟨rfl, below_two _ _⟩
    have h1' : (k == 1) = false := beq_eq_false_iff_ne.2 h1
    by_cases h2 : k = 2
    · subst h2
      have hv : cmpV ⟨2, b, n, s⟩ ⟨2, b', n', s'⟩ = cmpI n n' := by simp [cmpV]
      rw [hv]
      clear hv hs hs'
      go_enter Tryd.func13, Tryd.ntmps13
      go_wp2_with (go_at_call 46; refine (CO.out _ _ _).mono ?_; rintro e w' ⟨rfl, rfl⟩)
      go_ret
      exact ⟨retI (ordB_cmpI n n'), below_two _ _⟩
    have h2' : (k == 2) = false := beq_eq_false_iff_ne.2 h2
    by_cases h3 : k = 3
    · subst h3
      have hv : cmpV ⟨3, b, n, s⟩ ⟨3, b', n', s'⟩ = cmpS s s' := by simp [cmpV]
      rw [hv]
      exact compareRef_text b b' n n' s s' w hs hs'
    · have h3' : (k == 3) = false := beq_eq_false_iff_ne.2 h3
      have hv : cmpV ⟨k, b, n, s⟩ ⟨k, b', n', s'⟩ = 0 := by simp [cmpV, h1, h2, h3]
      rw [hv]
      clear hv h1 h2 h3 hs hs'
      go_enter Tryd.func13, Tryd.ntmps13
      go_wp2
      go_ret
      exact ⟨rfl, below_two _ _⟩
  · have ht : (k != k') = true := bne_iff_ne.2 hk
    have hv : cmpV ⟨k, b, n, s⟩ ⟨k', b', n', s'⟩ = cmpI k k' := by simp [cmpV, hk]
    rw [hv]
    clear hv hk hs hs'
    go_enter Tryd.func13, Tryd.ntmps13
    go_wp2_with (go_at_call 46; refine (CO.out _ _ _).mono ?_; rintro e w' ⟨rfl, rfl⟩)
    go_ret
    exact ⟨retI (ordB_cmpI k k'), below_two _ _⟩
end Go.Proofs.YtaekbmpiohmciaaDoor
