/- The law PlaceOwn: its pieces. -/
import Derived.Test.YthfoijnjgdeaaabDoorPo
import Derived.Test.YthfoijnjgdeaaabDoorXm
import Derived.Test.YthfoijnjgdeaaabDoorPc
namespace Go.Proofs.YthfoijnjgdeaaabDoor
open Go.Shelf Go.RowKit Go.Lib Go.Sort
set_option linter.unusedVariables false
set_option linter.unusedSimpArgs false
attribute [local go_sem ↓] Go.wp_at_zero Go.wp_at_succ
theorem rowsA_rows {w : World} {p : Option Addr} {rs : List (List Val)} (c : Nat) (h : RowsA w p rs) : RowsL w (.slice p rs.length c) rs := by
  refine ⟨p, c, rfl, h.1, fun h0 => ?_⟩
  obtain ⟨b, o, rfl, hlt, hc⟩ := h.2 h0
  refine ⟨b, o, rfl, hlt, fun j hj => ?_⟩
  obtain ⟨q, m, d, h1, h2⟩ := hc j hj
  exact ⟨_, h1, rowA_row h2⟩
/-- A row that may be spoilt: its numbers are there. -/
def Shp (base : Nat) (W : World) (u : Value) (m : Nat) : Prop :=
  (u = .slice none 0 0 ∧ m = 0) ∨ ∃ b cap cur, u = .slice (some ⟨b, 0, none⟩) m cap ∧ base ≤ b ∧ W.heap[b]? = some (.cells cur 38 (0, 0)) ∧ ∀ k, k < m → ∃ n, cur[k * 4 + 2]? = some (.int .i64 n)
/-- A shard whose rows may be spoilt. -/
def Lst (base : Nat) (W : World) (v : Value) (ks : List (List Val)) : Prop :=
  (v = .slice none 0 0 ∧ ks.length = 0) ∨ ∃ g cap cur, v = .slice (some ⟨g, 0, none⟩) ks.length cap ∧ W.heap[g]? = some (.cells cur 35 (0, 0)) ∧ ∀ m (h : m < ks.length), ∃ u, cur[m]? = some u ∧ Shp base W u ks[m].length
/-- Shards that are being spoilt. -/
def SpJ (w1 : World) (p : Option Addr) (S : Nat) (PT : Nat → List (List Val)) (wx : World) : Prop :=
  Below w1.heap.size w1 wx ∧ (0 < S → ∃ g cur, p = some ⟨g, 0, none⟩ ∧ wx.heap[g]? = some (.cells cur 25 (0, 0)) ∧ ∀ j, j < S → ∃ v, cur[j]? = some v ∧ Lst w1.heap.size wx v (PT j))
theorem OwnR.shp {base B : Nat} {W : World} {u : Value} {xs : List Val} (h : OwnR B W u xs) (hb : base ≤ B) : Shp base W u xs.length := by
  obtain ⟨hl, hn | ⟨b, cap, cur, rfl, hbb, hg, hnc, hcm, hcs, htake⟩⟩ := h
  · exact .inl hn
  · refine .inr ⟨b, cap, cur, rfl, by omega, hg, fun k hk => ?_⟩
    obtain ⟨_, _, a2, _⟩ := flat_at xs k hk
    rw [← htake] at a2
    have := List.getElem?_take (l := cur.toList) (i := xs.length * 4) (j := k * 4 + 2)
    rw [a2] at this
    split at this
    · exact ⟨_, by simpa using this.symm⟩
    · cases this
theorem PartR.lst {base B : Nat} {W : World} {v : Value} {ks : List (List Val)} (h : PartR B W v ks) (hb : base ≤ B) : Lst base W v ks := by
  obtain ⟨hs, ⟨hl, hn | ⟨b, cap, cur, rfl, hbb, hg, hnc, hcm, hcs, htake⟩⟩, hu⟩ := h
  · exact .inl hn
  · refine .inr ⟨b, cap, cur, rfl, hg, fun m hm => ?_⟩
    obtain ⟨u, h1, h2⟩ := hu m hm
    refine ⟨u, ?_, h2.shp hb⟩
    rw [← htake] at h1
    have := List.getElem?_take (l := cur.toList) (i := ks.length * 1) (j := m)
    rw [h1] at this
    split at this
    · simpa using this.symm
    · cases this
theorem SplJ.spoil {w1 W : World} {S : Nat} {PT : Nat → List (List Val)} (h : SplJ w1 S PT W) : SpJ w1 (some ⟨w1.heap.size, 0, none⟩) S PT W := by
  obtain ⟨cur, U, hg, hc, hu, hB, hp, hd⟩ := h
  exact ⟨hB, fun _ => ⟨_, cur, rfl, hg, fun j hj => ⟨U j, hu j hj, (hp j hj).lst (by omega)⟩⟩⟩
/-- One number is spoilt. -/
structure Spoilt (base : Nat) (W W' : World) : Prop where
  below : Below base W W'
  shp : ∀ u m, Shp base W u m → Shp base W' u m
  other : ∀ (g : Nat) (cur : Array Value) (t : TypeId), W.heap[g]? = some (.cells cur t (0, 0)) → t ≠ 38 → W'.heap[g]? = some (.cells cur t (0, 0))
theorem spoilt_step {base : Nat} {W : World} {b k : Nat} (hb : base ≤ b) {cur : Array Value} (hg : W.heap[b]? = some (.cells cur 38 (0, 0))) (x : Int) : Spoilt base W (W.setCell ⟨b, k * 4 + 2, none⟩ (.int .i64 x)) := by
  have hz : (W.setCell ⟨b, k * 4 + 2, none⟩ (.int .i64 x)).heap.size = W.heap.size := by simp [World.setCell]
  have ho : ∀ i, i ≠ b → (W.setCell ⟨b, k * 4 + 2, none⟩ (.int .i64 x)).heap[i]? = W.heap[i]? := fun i hi => heap_setCell_other W ⟨b, k * 4 + 2, none⟩ i _ hi
  have hs := heap_setCell_same W b (k * 4 + 2) cur 38 (.int .i64 x) hg
  refine ⟨⟨rfl, rfl, rfl, by rw [hz]; exact Nat.le_refl _, fun i hi => ho i (by omega)⟩, fun u m h => ?_, fun g cu t h ht => ?_⟩
  · rcases h with h2 | ⟨b', cap', cur', rfl, hbb, hg', hn⟩
    · exact .inl h2
    · by_cases e : b' = b
      · subst e
        rw [hg] at hg'
        simp only [Option.some.injEq, Obj.cells.injEq, and_true] at hg'
        subst hg'
        refine .inr ⟨b', cap', _, rfl, hbb, hs, fun i hi => ?_⟩
        obtain ⟨n, hn⟩ := hn i hi
        by_cases e2 : k * 4 + 2 = i * 4 + 2
        · have hlt2 : i * 4 + 2 < cur.size := (Array.getElem?_eq_some_iff.1 hn).1
          rw [e2]
          exact ⟨x, by rw [Array.getElem?_setIfInBounds_self_of_lt hlt2]⟩
        · exact ⟨n, by rw [Array.getElem?_setIfInBounds_ne e2]; exact hn⟩
      · exact .inr ⟨b', cap', cur', rfl, hbb, by rw [ho b' e]; exact hg', hn⟩
  · by_cases e : g = b
    · subst e
      rw [hg] at h
      simp only [Option.some.injEq, Obj.cells.injEq, and_true] at h
      exact absurd h.2.symm ht
    · rw [ho g e]; exact h
theorem Lst.spoilt {base : Nat} {W W' : World} {v : Value} {ks : List (List Val)} (h : Lst base W v ks) (hs : Spoilt base W W') : Lst base W' v ks := by
  rcases h with h | ⟨g, cap, cur, rfl, hg, hc⟩
  · exact .inl h
  · refine .inr ⟨g, cap, cur, rfl, hs.other _ _ _ hg (by decide), fun m hm => ?_⟩
    obtain ⟨u, h1, h2⟩ := hc m hm
    exact ⟨u, h1, hs.shp _ _ h2⟩
theorem SpJ.spoilt {w1 W W' : World} {p : Option Addr} {S : Nat} {PT : Nat → List (List Val)} (h : SpJ w1 p S PT W) (hs : Spoilt w1.heap.size W W') : SpJ w1 p S PT W' := by
  refine ⟨h.1.trans hs.below, fun h0 => ?_⟩
  obtain ⟨g, cur, rfl, hg, hc⟩ := h.2 h0
  refine ⟨g, cur, rfl, hs.other _ _ _ hg (by decide), fun j hj => ?_⟩
  obtain ⟨v, h1, h2⟩ := hc j hj
  exact ⟨v, h1, h2.spoilt hs⟩
theorem splitOwn_any (N S R : Int) (nm : ByteArray) (pc : Option Addr) (mc cc : Nat) (cs : List Col) (pr : Option Addr) (cr : Nat) (rs : List (List Val)) (w : World) (hs : nm.size ≤ 9223372036854775807) (hT : Lib.Utf8Tabs 0 1 w) (hc : ColA w (.slice pc mc cc) cs) (hr : RowsA w pr rs) (hk : ∀ r ∈ rs, ∀ x ∈ r, 0 ≤ x.k) :
    Calls Tryd.prog 6 #[.agg #[.int .i64 N, .int .i64 S, .int .i64 R], .agg #[.string nm, .slice pc mc cc, .slice pr rs.length cr]] w fun e w' => ∃ w3 p n E, e = .returned (.tuple #[.slice p n n, .int .i64 E]) ∧ n ≤ 8 ∧ Below w.heap.size w w3 ∧ SpJ w3 p n (partOf S rs) w' := by
  by_cases he : splitE N S R nm cs rs = 0
  · have h0 : layE N S R = 0 := by
      unfold splitE at he
      by_cases h0 : layE N S R = 0
      · exact h0
      · rw [if_neg h0] at he; exact absurd he h0
    obtain ⟨k1, k2, k3, k4, k5, k6⟩ := layE_zero.1 h0
    obtain ⟨S', rfl⟩ : ∃ S' : Nat, S = (S' : Int) := ⟨S.toNat, by omega⟩
    refine (split_good N S' R nm pc mc cc cs pr cr rs w hs hT hc hr hk he).mono ?_
    rintro e w' ⟨w3, rfl, hb, hJ⟩
    exact ⟨w3, _, S', 0, rfl, by omega, hb, hJ.spoil⟩
  · refine (split_bad N S R nm pc mc cc cs pr cr rs w hs hT hc hr he).mono ?_
    rintro e w' ⟨rfl, hb⟩
    exact ⟨w', none, 0, _, rfl, by omega, hb, Below.refl _ _, fun h => by omega⟩
end Go.Proofs.YthfoijnjgdeaaabDoor
