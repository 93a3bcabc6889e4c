/- The law PlaceLays: its pieces. -/
import Derived.Test.YthfoijnjgdeaaaaDoorPq
namespace Go.Proofs.YthfoijnjgdeaaaaDoor
open Go.Shelf Go.RowKit Go.Lib Go.Sort
set_option linter.unusedVariables false
set_option linter.unusedSimpArgs false
attribute [local go_sem ↓] Go.wp_at_zero Go.wp_at_succ
theorem ownE_lay {N S R sh : Int} (h : ownE N S R sh = 0) : layE N S R = 0 ∧ 0 ≤ sh ∧ sh ≤ S - 1 := by
  unfold ownE at h
  by_cases h0 : layE N S R = 0
  · rw [if_pos h0] at h
    by_cases h1 : 0 ≤ sh ∧ sh ≤ S - 1
    · exact ⟨h0, h1⟩
    · rw [if_neg h1] at h; cases h
  · rw [if_neg h0] at h; exact absurd h h0
theorem ownE_two {N S R sh : Int} (h : ownE N S R sh ≠ 0) : ownE N S R sh = 2 := by
  unfold ownE at h ⊢
  by_cases h0 : layE N S R = 0
  · rw [if_pos h0] at h ⊢
    by_cases h1 : 0 ≤ sh ∧ sh ≤ S - 1
    · rw [if_pos h1] at h; exact absurd rfl h
    · rw [if_neg h1]
  · rw [if_neg h0]; exact layE_two h0
/-- The owners that are answered. -/
def zsO (N S R sh : Int) : List Int := if ownE N S R sh = 0 then (ownL N sh R.toNat).mergeSort (fun x y => decide (x ≤ y)) else []
theorem ints_nil (w : World) : IntsL w (.slice none 0 0) [] := ⟨none, 0, rfl, by simp, fun h => by simp at h⟩
theorem ownersAll_any (N S R sh : Int) (w : World) :
    Calls Tryd.prog 9 #[.agg #[.int .i64 N, .int .i64 S, .int .i64 R], .int .i64 sh] w fun e w' => ∃ u, e = .returned (.tuple #[u, .int .i64 (ownE N S R sh)]) ∧ IntsL w' u (zsO N S R sh) ∧ Below w.heap.size w w' := by
  by_cases h : ownE N S R sh = 0
  · obtain ⟨h0, hr⟩ := ownE_lay h
    obtain ⟨k1, k2, k3, k4, k5, k6⟩ := layE_zero.1 h0
    obtain ⟨R', rfl⟩ : ∃ R' : Nat, R = (R' : Int) := ⟨R.toNat, by omega⟩
    unfold zsO
    rw [if_pos h, h, Int.toNat_natCast]
    exact owners_good N S R' sh w h0 hr
  · refine (owners_bad N S R sh w h).mono ?_
    rintro e w' ⟨rfl, hb⟩
    unfold zsO
    rw [if_neg h]
    exact ⟨_, rfl, ints_nil _, hb⟩
theorem refOwnersAll_any (N S R sh : Int) (w : World) :
    Calls Tryd.prog 10 #[.agg #[.int .i64 N, .int .i64 S, .int .i64 R], .int .i64 sh] w fun e w' => ∃ u, e = .returned (.tuple #[u, .int .i64 (ownE N S R sh)]) ∧ IntsL w' u (zsO N S R sh) ∧ Below w.heap.size w w' := by
  by_cases h : ownE N S R sh = 0
  · obtain ⟨h0, hr⟩ := ownE_lay h
    obtain ⟨k1, k2, k3, k4, k5, k6⟩ := layE_zero.1 h0
    obtain ⟨R', rfl⟩ : ∃ R' : Nat, R = (R' : Int) := ⟨R.toNat, by omega⟩
    unfold zsO
    rw [if_pos h, h, Int.toNat_natCast]
    exact refOwners_good N S R' sh w h0 hr
  · refine (refOwners_bad N S R sh w h).mono ?_
    rintro e w' ⟨rfl, hb⟩
    unfold zsO
    rw [if_neg h, ownE_two h]
    exact ⟨_, rfl, ints_nil _, hb⟩
/-- Shards that are answered: how many, and what each is. -/
def ShJ (W : World) (p : Option Addr) (n : Nat) (PT : Nat → List (List Val)) : Prop :=
  0 < n → ∃ g, p = some ⟨g, 0, none⟩ ∧ g < W.heap.size ∧ ∀ j, j < n → ∃ q m c, W.cell? ⟨g, j, none⟩ = some (.slice q m c) ∧ RowsL W (.slice q m c) (PT j)
theorem ShJ.below {W W' : World} {p : Option Addr} {n : Nat} {PT : Nat → List (List Val)} (h : ShJ W p n PT) (hb : Below W.heap.size W W') : ShJ W' p n PT := fun h0 => by
  obtain ⟨g, rfl, hg, hc⟩ := h h0
  refine ⟨g, rfl, Nat.lt_of_lt_of_le hg hb.size, fun j hj => ?_⟩
  obtain ⟨q, m, c, h1, h2⟩ := hc j hj
  exact ⟨q, m, c, by rw [hb.cell (p := ⟨g, _, none⟩) hg]; exact h1, h2.below hb⟩
def shN (N S R : Int) (nm : ByteArray) (cs : List Col) (rs : List (List Val)) : Nat := if splitE N S R nm cs rs = 0 then S.toNat else 0
theorem SplJ.shj {w1 W : World} {S : Nat} {PT : Nat → List (List Val)} (h : SplJ w1 S PT W) (hn : ∀ j, (PT j).length ≤ 9223372036854775807) : ShJ W (some ⟨w1.heap.size, 0, none⟩) S PT := fun h0 => by
  refine ⟨_, rfl, (splJ_at h h0).2, fun j hj => ?_⟩
  obtain ⟨pa, ca, hca, hra⟩ := h.shard hj (hn j)
  exact ⟨_, _, _, hca, hra⟩
theorem splitE_ok {N S R : Int} {nm : ByteArray} {cs : List Col} {rs : List (List Val)} (he : splitE N S R nm cs rs = 0) : layE N S R = 0 ∧ rs.length ≤ 64 := by
  have h0 : layE N S R = 0 := by
    unfold splitE at he
    by_cases h0 : layE N S R = 0
    · exact h0
    · rw [if_neg h0] at he; exact absurd he h0
  exact ⟨h0, (table_ok (by unfold splitE at he; rw [if_pos h0] at he; exact he)).1⟩
theorem splitAll_any (N S R : Int) (nm : ByteArray) (pc : Option Addr) (mc cc : Nat) (cs : List Col) (pr : Option Addr) (cr : Nat) (rs : List (List Val)) (w : World) (hs : nm.size ≤ 9223372036854775807) (hT : Lib.Utf8Tabs 0 1 w) (hc : ColA w (.slice pc mc cc) cs) (hr : RowsA w pr rs) (hk : ∀ r ∈ rs, ∀ x ∈ r, 0 ≤ x.k) :
    Calls Tryd.prog 13 #[.agg #[.int .i64 N, .int .i64 S, .int .i64 R], .agg #[.string nm, .slice pc mc cc, .slice pr rs.length cr]] w fun e w' => ∃ p, e = .returned (.tuple #[.slice p (shN N S R nm cs rs) (shN N S R nm cs rs), .int .i64 (splitE N S R nm cs rs)]) ∧ Below w.heap.size w w' ∧ ShJ w' p (shN N S R nm cs rs) (partOf S rs) := by
  by_cases he : splitE N S R nm cs rs = 0
  · obtain ⟨h0, h64⟩ := splitE_ok he
    obtain ⟨k1, k2, k3, k4, k5, k6⟩ := layE_zero.1 h0
    obtain ⟨S', rfl⟩ : ∃ S' : Nat, S = (S' : Int) := ⟨S.toNat, by omega⟩
    refine (split_good N S' R nm pc mc cc cs pr cr rs w hs hT hc hr hk he).mono ?_
    rintro e w' ⟨w3, rfl, hb, hJ⟩
    have hb' : Below w3.heap.size w3 w' := by obtain ⟨_, _, _, _, _, h, _⟩ := hJ; exact h
    have en : shN N S' R nm cs rs = S' := by unfold shN; rw [if_pos he, Int.toNat_natCast]
    rw [en, he]
    exact ⟨_, rfl, hb.trans (hb'.mono hb.size), hJ.shj (fun j => Nat.le_trans (partOf_len _ _ _) (by omega))⟩
  · refine (split_bad N S R nm pc mc cc cs pr cr rs w hs hT hc hr he).mono ?_
    rintro e w' ⟨rfl, hb⟩
    have en : shN N S R nm cs rs = 0 := by unfold shN; rw [if_neg he]
    rw [en]
    exact ⟨none, rfl, hb, fun h => by omega⟩
theorem refSplitAll_any (N S R : Int) (nm : ByteArray) (pc : Option Addr) (mc cc : Nat) (cs : List Col) (pr : Option Addr) (cr : Nat) (rs : List (List Val)) (w : World) (hc : ColA w (.slice pc mc cc) cs) (hr : RowsA w pr rs) (hk : ∀ r ∈ rs, ∀ x ∈ r, 0 ≤ x.k) :
    Calls Tryd.prog 14 #[.agg #[.int .i64 N, .int .i64 S, .int .i64 R], .agg #[.string nm, .slice pc mc cc, .slice pr rs.length cr]] w fun e w' => ∃ p, e = .returned (.tuple #[.slice p (shN N S R nm cs rs) (shN N S R nm cs rs), .int .i64 (splitE N S R nm cs rs)]) ∧ Below w.heap.size w w' ∧ ShJ w' p (shN N S R nm cs rs) (partOf S rs) := by
  by_cases he : splitE N S R nm cs rs = 0
  · obtain ⟨h0, h64⟩ := splitE_ok he
    obtain ⟨k1, k2, k3, k4, k5, k6⟩ := layE_zero.1 h0
    obtain ⟨S', rfl⟩ : ∃ S' : Nat, S = (S' : Int) := ⟨S.toNat, by omega⟩
    refine (refSplit_good N S' R nm pc mc cc cs pr cr rs w hc hr hk he).mono ?_
    rintro e w' ⟨w3, rfl, hb, hJ⟩
    have hb' : Below w3.heap.size w3 w' := by obtain ⟨_, _, _, _, _, h, _⟩ := hJ; exact h
    have en : shN N S' R nm cs rs = S' := by unfold shN; rw [if_pos he, Int.toNat_natCast]
    rw [en, he]
    exact ⟨_, rfl, hb.trans (hb'.mono hb.size), hJ.shj (fun j => Nat.le_trans (partOf_len _ _ _) (by omega))⟩
  · refine (refSplit_bad N S R nm pc mc cc cs pr cr rs w hc hr he).mono ?_
    rintro e w' ⟨rfl, hb⟩
    have en : shN N S R nm cs rs = 0 := by unfold shN; rw [if_neg he]
    rw [en]
    exact ⟨none, rfl, hb, fun h => by omega⟩
theorem shN_le (N S R : Int) (nm : ByteArray) (cs : List Col) (rs : List (List Val)) : shN N S R nm cs rs ≤ 8 := by
  unfold shN
  by_cases he : splitE N S R nm cs rs = 0
  · rw [if_pos he]
    obtain ⟨k1, k2, k3, k4, k5, k6⟩ := layE_zero.1 (splitE_ok he).1
    omega
  · rw [if_neg he]; omega
/-- What a walk keeps of the two boxes. -/
def Box2 (w W : World) (N S R : Int) (nm : ByteArray) (vc vr : Value) : Prop :=
  Below w.heap.size w W ∧ w.heap.size + 2 ≤ W.heap.size ∧ W.cell? ⟨w.heap.size, 0, none⟩ = some (.int .i64 N) ∧ W.cell? ⟨w.heap.size, 1, none⟩ = some (.int .i64 S) ∧ W.cell? ⟨w.heap.size, 2, none⟩ = some (.int .i64 R) ∧
    W.cell? ⟨w.heap.size + 1, 0, none⟩ = some (.string nm) ∧ W.cell? ⟨w.heap.size + 1, 1, none⟩ = some vc ∧ W.cell? ⟨w.heap.size + 1, 2, none⟩ = some vr
theorem Box2.below {w W W' : World} {N S R : Int} {nm : ByteArray} {vc vr : Value} (h : Box2 w W N S R nm vc vr) (hb : Below W.heap.size W W') : Box2 w W' N S R nm vc vr := by
  obtain ⟨a, b, c0, c1, c2, d0, d1, d2⟩ := h
  have k : ∀ i j, i < w.heap.size + 2 → W'.cell? ⟨i, j, none⟩ = W.cell? ⟨i, j, none⟩ := fun i j hi => hb.cell (p := ⟨i, j, none⟩) (by show i < _; omega)
  refine ⟨a.trans (hb.mono a.size), Nat.le_trans b hb.size, ?_, ?_, ?_, ?_, ?_, ?_⟩
  · rw [k _ _ (by omega)]; exact c0
  · rw [k _ _ (by omega)]; exact c1
  · rw [k _ _ (by omega)]; exact c2
  · rw [k _ _ (by omega)]; exact d0
  · rw [k _ _ (by omega)]; exact d1
  · rw [k _ _ (by omega)]; exact d2
theorem Box2.start (w : World) (N S R : Int) (nm : ByteArray) (vc vr : Value) : Box2 w ((w.alloc (.cells #[.int .i64 N, .int .i64 S, .int .i64 R] 23)).alloc (.cells #[.string nm, vc, vr] 29)) N S R nm vc vr :=
  ⟨two_below w _ _, by simp, two_first w _ _ _ _ _ rfl, two_first w _ _ _ _ _ rfl, two_first w _ _ _ _ _ rfl, two_second w _ _ _ _ _ rfl, two_second w _ _ _ _ _ rfl, two_second w _ _ _ _ _ rfl⟩
end Go.Proofs.YthfoijnjgdeaaaaDoor
