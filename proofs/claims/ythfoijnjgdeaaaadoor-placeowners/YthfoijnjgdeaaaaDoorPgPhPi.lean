/- A table's shards: what Split answers. -/
import Derived.Test.YthfoijnjgdeaaaaDoorPePf
import Derived.Test.YthfoijnjgdeaaaaDoorTg
import Derived.Deep.RegionHeld3
import Derived.Deep.RegionLaw
namespace Go.Proofs.YthfoijnjgdeaaaaDoor
open Go.Shelf Go.RowKit Go.Lib Go.Sort
set_option linter.unusedVariables false
set_option linter.unusedSimpArgs false
attribute [local go_sem ↓] Go.wp_at_zero Go.wp_at_succ
theorem putB_range (h b : Int) : 0 ≤ putB h b ∧ putB h b < 18446744073709551616 := by
  unfold putB
  rw [IntKind.wrap_u64]
  omega
theorem putL_range : ∀ (l : List Int) (h : Int), 0 ≤ h ∧ h < 18446744073709551616 → 0 ≤ putL h l ∧ putL h l < 18446744073709551616
  | [], h, hh => hh
  | b :: l, h, _ => putL_range l (putB h b) (putB_range h b)
theorem hashV_range (x : Val) : 0 ≤ hashV x ∧ hashV x < 18446744073709551616 := putL_range _ _ (putB_range _ _)
theorem chk_ok (x : Val) (h : chkV x = 0) : x.k < 4 ∧ x.s.size ≤ 256 := by
  unfold chkV at h
  split at h
  · cases h
  · rename_i h1
    split at h
    · cases h
    · omega
theorem chkRow_ok : ∀ (xs : List Val) (ks : List Int), xs.length = ks.length → chkRow xs ks = 0 → ∀ x ∈ xs, chkV x = 0
  | [], _, _, _, x, hx => by simp at hx
  | y :: xs, [], hl, _, x, hx => by simp at hl
  | y :: xs, k :: ks, hl, h, x, hx => by
    unfold chkRow at h
    by_cases h0 : chkV y = 0
    · rw [if_pos h0] at h
      rcases List.mem_cons.1 hx with rfl | hx
      · exact h0
      · split at h
        · cases h
        · exact chkRow_ok xs ks (by simpa using hl) h x hx
    · rw [if_neg h0] at h; exact absurd h h0
theorem rowsGo_ok : ∀ (rs : List (List Val)) (cs : List Col), rowsGo rs cs = 0 → ∀ r ∈ rs, rowV r cs = 0
  | [], _, _, r, hr => by simp at hr
  | q :: rs, cs, h, r, hr => by
    unfold rowsGo at h
    by_cases h0 : rowV q cs = 0
    · rw [if_pos h0] at h
      rcases List.mem_cons.1 hr with rfl | hr
      · exact h0
      · exact rowsGo_ok rs cs h r hr
    · rw [if_neg h0] at h; exact absurd h h0
theorem table_ok {s : ByteArray} {cs : List Col} {rs : List (List Val)} (h : tableV s cs rs = 0) : rs.length ≤ 64 ∧ ∀ r ∈ rs, r ≠ [] ∧ r.length ≤ 8 ∧ ∀ x ∈ r, x.k < 4 ∧ x.s.size ≤ 256 := by
  unfold tableV at h
  by_cases h0 : nameV s = 0
  · rw [if_pos h0] at h
    by_cases h1 : colsV cs = 0
    · rw [if_pos h1] at h
      by_cases h2 : 64 < rs.length
      · rw [if_pos h2] at h; cases h
      · rw [if_neg h2] at h
        have hc : ¬ (cs.length = 0 ∨ 8 < cs.length) := fun hc => by unfold colsV at h1; rw [if_pos hc] at h1; cases h1
        refine ⟨by omega, fun r hr => ?_⟩
        have h3 := rowsGo_ok rs cs h r hr
        unfold rowV at h3
        by_cases h4 : r.length = cs.length
        · rw [if_pos h4] at h3
          refine ⟨fun e => by rw [e] at h4; simp at h4; omega, by omega, fun x hx => chk_ok x (chkRow_ok r _ (by simpa using h4) h3 x hx)⟩
        · rw [if_neg h4] at h3; cases h3
    · rw [if_neg h1] at h; exact absurd h h1
  · rw [if_neg h0] at h; exact absurd h h0
/-- The rows of a shard. -/
def partOf (S : Int) (rs : List (List Val)) (j : Nat) : List (List Val) := rs.filter fun r => decide (shd S r = (j : Int))
theorem partOf_step (S : Int) (rs : List (List Val)) (k : Nat) (hk : k < rs.length) (s : Nat) (hs : shd S rs[k] = (s : Int)) : partOf S (rs.take (k + 1)) = fun j => if j = s then partOf S (rs.take k) j ++ [rs[k]] else partOf S (rs.take k) j := by
  funext j
  unfold partOf
  rw [List.take_succ_eq_append_getElem hk, List.filter_append]
  by_cases e : j = s
  · subst e
    rw [if_pos rfl]
    simp [hs]
  · rw [if_neg e]
    have : decide (shd S rs[k] = (j : Int)) = false := decide_eq_false (by rw [hs]; omega)
    simp [this]
theorem partOf_len (S : Int) (rs : List (List Val)) (j : Nat) : (partOf S rs j).length ≤ rs.length := List.length_filter_le _ _
def splitE (N S R : Int) (nm : ByteArray) (cs : List Col) (rs : List (List Val)) : Int := if layE N S R = 0 then tableV nm cs rs else layE N S R
theorem rowA_row {w : World} {v : Value} {xs : List Val} (h : RowA w v xs) : RowV w v xs := by
  obtain ⟨p, c, rfl, hl, _, hp⟩ := h
  refine ⟨hl, ?_⟩
  by_cases h0 : 0 < xs.length
  · obtain ⟨b, o, rfl, hr, hb⟩ := hp h0
    exact .inr ⟨b, o, c, rfl, hr, hb⟩
  · have : xs = [] := List.eq_nil_of_length_eq_zero (by omega)
    subst this
    exact .inl ⟨p, c, rfl, rfl⟩
theorem RowsA.below {w W : World} {p : Option Addr} {rs : List (List Val)} (h : RowsA w p rs) (hb : Below w.heap.size w W) : RowsA W p rs := by
  refine ⟨h.1, fun h0 => ?_⟩
  obtain ⟨b, o, rfl, hlt, hc⟩ := h.2 h0
  refine ⟨b, o, rfl, Nat.lt_of_lt_of_le hlt hb.size, fun j hj => ?_⟩
  obtain ⟨q, m, d, h1, h2⟩ := hc j hj
  exact ⟨q, m, d, by rw [hb.cell (p := ⟨b, _, none⟩) hlt]; exact h1, h2.below hb⟩
theorem infoRows : ∃ i0, Tryd.prog.info? 27 = some i0 ∧ i0.zero = some (.slice none 0 0) ∧ i0.size = 1 ∧ i0.bytes = 24 := by
  have h1 : (Tryd.prog.info? 27).bind (·.zero) = some (.slice none 0 0) := by kernel_rfl
  have h2 : (Tryd.prog.info? 27).map (·.size) = some 1 := by kernel_rfl
  have h3 : (Tryd.prog.info? 27).map (·.bytes) = some 24 := by kernel_rfl
  generalize Tryd.prog.info? 27 = i at *
  cases i with
  | none => cases h1
  | some i => exact ⟨i, rfl, h1, Option.some.inj h2, Option.some.inj h3⟩
theorem two_below (w : World) (o1 o2 : Obj) : Below w.heap.size w ((w.alloc o1).alloc o2) := ((Below.refl _ _).alloc (Nat.le_refl _) _).alloc (by simp) _
theorem two_first (w : World) (vs : Array Value) (t : TypeId) (o : Obj) (i : Nat) (v : Value) (h : vs[i]? = some v) : ((w.alloc (.cells vs t)).alloc o).cell? ⟨w.heap.size, i, none⟩ = some v := by
  rw [World.cell?_of_block (w := w.alloc (.cells vs t)) (heap_alloc_old _ _ (by simp))]
  exact cell_box w vs t i v h
theorem two_second (w : World) (o : Obj) (vs : Array Value) (t : TypeId) (i : Nat) (v : Value) (h : vs[i]? = some v) : ((w.alloc o).alloc (.cells vs t)).cell? ⟨w.heap.size + 1, i, none⟩ = some v := by
  have := cell_box (w.alloc o) vs t i v h
  simpa using this
set_option maxRecDepth 100000 in
set_option maxHeartbeats 4000000 in
theorem split_bad (N S R : Int) (nm : ByteArray) (pc : Option Addr) (mc cc : Nat) (cs : List Col) (pr : Option Addr) (cr : Nat) (rs : List (List Val)) (w : World) (hs : nm.size ≤ 9223372036854775807) (hT : Lib.Utf8Tabs 0 1 w) (hc : ColA w (.slice pc mc cc) cs) (hr : RowsA w pr rs) (he : splitE N S R nm cs rs ≠ 0) :
    Calls Tryd.prog 13 #[.agg #[.int .i64 N, .int .i64 S, .int .i64 R], .agg #[.string nm, .slice pc mc cc, .slice pr rs.length cr]] w fun e w' => e = .returned (.tuple #[.slice none 0 0, .int .i64 (splitE N S R nm cs rs)]) ∧ Below w.heap.size w w' := by
  have C1 : Hid (∀ W, Calls Tryd.prog 18 #[.agg #[.int .i64 N, .int .i64 S, .int .i64 R]] W fun e w' => e = .returned (.int .i64 (layE N S R)) ∧ Below W.heap.size W w') := fun W => layCheck_any N S R W
  have C2 : Hid (∀ W, Below w.heap.size w W → Calls Tryd.prog 30 #[.agg #[.string nm, .slice pc mc cc, .slice pr rs.length cr]] W fun e w' => e = .returned (.int .i64 (tableV nm cs rs)) ∧ Below W.heap.size W w') := fun W h => table_core nm pc mc cc cs pr cr rs W hs (Utf8Tabs_below hT h) (hc.below h) (hr.below h) _ (show _ = _ from rfl)
  clear hc hr hT
  by_cases h0 : layE N S R = 0
  · rw [h0] at C1
    have e : splitE N S R nm cs rs = tableV nm cs rs := by unfold splitE; rw [if_pos h0]
    rw [e] at he ⊢
    obtain ⟨E, hE⟩ : ∃ E, tableV nm cs rs = E := ⟨_, rfl⟩
    rw [hE] at C2 he ⊢
    have hne : (E != 0) = true := bne_iff_ne.2 he
    clear e hE h0 he
    go_enter Tryd.func13, Tryd.ntmps13
    go_wp2_with fail
    refine (C1.out _).mono ?_
    rintro e w1 ⟨rfl, hb1⟩
    have y0 : w1.cell? ⟨w.heap.size + 1, 0, none⟩ = some (.string nm) := by rw [hb1.cell (by simp)]; exact two_second w _ _ _ _ _ rfl
    have y1 : w1.cell? ⟨w.heap.size + 1, 1, none⟩ = some (.slice pc mc cc) := by rw [hb1.cell (by simp)]; exact two_second w _ _ _ _ _ rfl
    have y2 : w1.cell? ⟨w.heap.size + 1, 2, none⟩ = some (.slice pr rs.length cr) := by rw [hb1.cell (by simp)]; exact two_second w _ _ _ _ _ rfl
    have HB : Hid (Below w.heap.size w w1) := (two_below w _ _).trans (hb1.mono (by simp; omega))
    clear hb1
    go_wp2_with fail
    refine (C2.out _ HB.out).mono ?_
    rintro e w2 ⟨rfl, hb2⟩
    have HB2 : Hid (Below w.heap.size w w2) := HB.out.trans (hb2.mono HB.out.size)
    clear hb2
    go_wp2_with fail
    go_ret2
    exact ⟨rfl, HB2.out⟩
  · have e : splitE N S R nm cs rs = layE N S R := by unfold splitE; rw [if_neg h0]
    rw [e]
    obtain ⟨L, hL⟩ : ∃ L, layE N S R = L := ⟨_, rfl⟩
    rw [hL] at C1 h0 ⊢
    have hne : (L != 0) = true := bne_iff_ne.2 h0
    clear e he h0 hL
    go_enter Tryd.func13, Tryd.ntmps13
    go_wp2_with fail
    refine (C1.out _).mono ?_
    rintro e w1 ⟨rfl, hb1⟩
    have HB : Hid (Below w.heap.size w w1) := (two_below w _ _).trans (hb1.mono (by simp; omega))
    clear hb1
    go_wp2_with fail
    go_ret2
    exact ⟨rfl, HB.out⟩
end Go.Proofs.YthfoijnjgdeaaaaDoor
/- A table's shards: what Split answers of a right table. -/
namespace Go.Proofs.YthfoijnjgdeaaaaDoor
open Go.Shelf Go.RowKit Go.Lib Go.Sort
set_option linter.unusedVariables false
set_option linter.unusedSimpArgs false
attribute [local go_sem ↓] Go.wp_at_zero Go.wp_at_succ
theorem below_undrew {B : Nat} {w W : World} (h : Below B w.drew W) : Below B w W := ⟨h.os, h.tape, h.output, h.size, h.block⟩
theorem splJ_at {w1 wr : World} {S s : Nat} {PT : Nat → List (List Val)} (hJ : SplJ w1 S PT wr) (hs : s < S) : (∃ p n c, wr.cell? ⟨w1.heap.size, s, none⟩ = some (.slice p n c)) ∧ w1.heap.size < wr.heap.size := by
  obtain ⟨cur, U, hg, hc, hu, hB, hp, hd⟩ := hJ
  obtain ⟨hs', ho, _⟩ := hp s hs
  refine ⟨?_, (Array.getElem?_eq_some_iff.1 hg).1⟩
  have : wr.cell? ⟨w1.heap.size, s, none⟩ = some (U s) := by simp [World.cell?, hg, hu s hs]
  obtain ⟨_, ⟨e, _⟩ | ⟨g, cap, cu, e, _⟩⟩ := ho
  · exact ⟨_, _, _, by rw [this, e]⟩
  · exact ⟨_, _, _, by rw [this, e]⟩
theorem split_step2 {w1 wr w2 : World} {S s : Nat} {PT : Nat → List (List Val)} {q v0 : Value} {r : List Val} (hJ : SplJ w1 S PT wr) (hs : s < S) (hb : Below wr.heap.size wr w2) (hq : OwnR wr.heap.size w2 q r) (hn : ((PT s).length + 1) * 24 ≤ 140737488355328) (hv : wr.cell? ⟨w1.heap.size, s, none⟩ = some v0) (ty : TypeId) :
    ∃ p n c W', (Builtin.append_ #[27, 27] ty #[v0, .slice (some ⟨w2.heap.size, 0, none⟩) 1 1]).run Tryd.prog (w2.alloc (.cells #[q] 25)) = .ok (.slice p n c) W' ∧
      W'.cell? ⟨w1.heap.size, s, none⟩ = some v0 ∧ W'.frozen? ⟨w1.heap.size, s, none⟩ = false ∧ SplJ w1 S (fun j => if j = s then PT j ++ [r] else PT j) (W'.setCell ⟨w1.heap.size, s, none⟩ (.slice p n c)) := by
  obtain ⟨v, v', W', h1, _, ⟨p, n, c, rfl⟩, h4, h5, h6, h7⟩ := split_step hJ hs hb hq hn ty
  rw [hv] at h1
  obtain rfl := Option.some.inj h1
  exact ⟨p, n, c, W', h4, h5, h6, h7⟩
theorem ownR_form {base : Nat} {W : World} {u : Value} {xs : List Val} (h : OwnR base W u xs) : ∃ p n c, u = .slice p n c := by
  obtain ⟨_, ⟨rfl, _⟩ | ⟨g, cap, cur, rfl, _⟩⟩ := h <;> exact ⟨_, _, _, rfl⟩
theorem step_append27 {ops : Array Oper} {o : Oper} {a : Act} {K : Act → World → Prop} {Q : Exit → Act → World → Prop} {E : Prop} (W : World) (hgd : o.guard = none) (s x : Operand)
    (ho : o.op = .call { callee := .builtin .append, args := #[s, x], argTypes := #[27, 27] }) (vs vx v' : Value) (W' : World) (hs : a.eval s = vs) (hx : a.eval x = vx)
    (hrun : (Builtin.append_ #[27, 27] o.type #[vs, vx]).run Tryd.prog W = .ok v' W') (h : K (a.put o.dst v') W') :
    if Region.wanted o (yielded ops a.tmps) = true then Oper.wp Tryd.prog o a W K Q else E := by
  have hw : Region.wanted o (yielded ops a.tmps) = true := by simp [Region.wanted, hgd]
  rw [if_pos hw]
  unfold Oper.wp execOp
  simp only [ho, resolve, invoke, builtin, Sem.run_bind, Sem.run_pure, Result.andThen_ok, List.map_toArray, List.map_cons, List.map_nil, hs, hx, hrun]
  exact h
theorem splJ_start (w1 : World) (S : Nat) (Z : Array Value) (hZ : Z.size = S) (hz : ∀ j, j < S → Z[j]? = some (.slice none 0 0)) (rs : List (List Val)) (SI : Int) : SplJ w1 S (partOf SI (rs.take 0)) (w1.alloc (.cells Z 27)) := by
  refine ⟨Z, fun _ => .slice none 0 0, heap_alloc_new w1 _, hZ, hz, (Below.refl _ _).alloc (Nat.le_refl _) _, fun j hj => ⟨[], ?_, fun m hm => ?_⟩, fun i j _ _ _ => .inl rfl⟩
  · simp [partOf]; exact World.ownsRow_nil _ _ _ _
  · simp [partOf] at hm
set_option maxRecDepth 100000 in
set_option maxHeartbeats 8000000 in
theorem split_good (N : Int) (S : Nat) (R : Int) (nm : ByteArray) (pc : Option Addr) (mc cc : Nat) (cs : List Col) (pr : Option Addr) (cr : Nat) (rs : List (List Val)) (w : World) (hs : nm.size ≤ 9223372036854775807) (hT : Lib.Utf8Tabs 0 1 w) (hc : ColA w (.slice pc mc cc) cs) (hr : RowsA w pr rs) (hk : ∀ r ∈ rs, ∀ x ∈ r, 0 ≤ x.k) (he : splitE N S R nm cs rs = 0) :
    Calls Tryd.prog 13 #[.agg #[.int .i64 N, .int .i64 S, .int .i64 R], .agg #[.string nm, .slice pc mc cc, .slice pr rs.length cr]] w fun e w' => ∃ w3, e = .returned (.tuple #[.slice (some ⟨w3.heap.size, 0, none⟩) S S, .int .i64 0]) ∧ Below w.heap.size w w3 ∧ SplJ w3 S (partOf S rs) w' := by
  have h0 : layE N S R = 0 := by
    unfold splitE at he
    by_cases h0 : layE N S R = 0
    · exact h0
    · rw [if_neg h0] at he; exact absurd he h0
  have ht : tableV nm cs rs = 0 := by unfold splitE at he; rw [if_pos h0] at he; exact he
  have hok := table_ok ht
  obtain ⟨k1, k2, k3, k4, k5, k6⟩ := layE_zero.1 h0
  have C1 : Hid (∀ W, Calls Tryd.prog 18 #[.agg #[.int .i64 N, .int .i64 S, .int .i64 R]] W fun e w' => e = .returned (.int .i64 0) ∧ Below W.heap.size W w') := fun W => by rw [← h0]; exact layCheck_any N S R W
  have C2 : Hid (∀ W, Below w.heap.size w W → Calls Tryd.prog 30 #[.agg #[.string nm, .slice pc mc cc, .slice pr rs.length cr]] W fun e w' => e = .returned (.int .i64 0) ∧ Below W.heap.size W w') := fun W h => table_core nm pc mc cc cs pr cr rs W hs (Utf8Tabs_below hT h) (hc.below h) (hr.below h) _ ht
  have HR : Hid (RowsA w pr rs) := hr
  have HK : Hid (∀ r ∈ rs, ∀ x ∈ r, 0 ≤ x.k) := hk
  have HO : Hid (∀ r ∈ rs, r ≠ [] ∧ r.length ≤ 8 ∧ ∀ x ∈ r, x.k < 4 ∧ x.s.size ≤ 256) := hok.2
  have hn64 := hok.1
  clear hc hr hT hk hok ht he h0
  go_enter Tryd.func13, Tryd.ntmps13
  go_wp2_with fail
  refine (C1.out _).mono ?_
  rintro e w1 ⟨rfl, hb1⟩
  have y0 : w1.cell? ⟨w.heap.size + 1, 0, none⟩ = some (.string nm) := by rw [hb1.cell (by simp)]; exact two_second w _ _ _ _ _ rfl
  have y1 : w1.cell? ⟨w.heap.size + 1, 1, none⟩ = some (.slice pc mc cc) := by rw [hb1.cell (by simp)]; exact two_second w _ _ _ _ _ rfl
  have y2 : w1.cell? ⟨w.heap.size + 1, 2, none⟩ = some (.slice pr rs.length cr) := by rw [hb1.cell (by simp)]; exact two_second w _ _ _ _ _ rfl
  have z0 : w1.cell? ⟨w.heap.size, 0, none⟩ = some (.int .i64 N) := by rw [hb1.cell (by simp; omega)]; exact two_first w _ _ _ _ _ rfl
  have z1 : w1.cell? ⟨w.heap.size, 1, none⟩ = some (.int .i64 S) := by rw [hb1.cell (by simp; omega)]; exact two_first w _ _ _ _ _ rfl
  have z2 : w1.cell? ⟨w.heap.size, 2, none⟩ = some (.int .i64 R) := by rw [hb1.cell (by simp; omega)]; exact two_first w _ _ _ _ _ rfl
  have hs1 : w.heap.size + 2 ≤ w1.heap.size := by have := hb1.size; simp at this; omega
  have HB : Hid (Below w.heap.size w w1) := (two_below w _ _).trans (hb1.mono (by simp; omega))
  clear hb1
  go_wp2_with fail
  refine (C2.out _ HB.out).mono ?_
  rintro e w3 ⟨rfl, hb3⟩
  have HB3 : Hid (Below w.heap.size w w3) := HB.out.trans (hb3.mono HB.out.size)
  have x2 : w3.cell? ⟨w.heap.size + 1, 2, none⟩ = some (.slice pr rs.length cr) := by rw [hb3.cell (p := ⟨w.heap.size + 1, _, none⟩) (by show w.heap.size + 1 < _; omega)]; exact y2
  have v0 : w3.cell? ⟨w.heap.size, 0, none⟩ = some (.int .i64 N) := by rw [hb3.cell (p := ⟨w.heap.size, _, none⟩) (by show w.heap.size < _; omega)]; exact z0
  have v1 : w3.cell? ⟨w.heap.size, 1, none⟩ = some (.int .i64 S) := by rw [hb3.cell (p := ⟨w.heap.size, _, none⟩) (by show w.heap.size < _; omega)]; exact z1
  have v2 : w3.cell? ⟨w.heap.size, 2, none⟩ = some (.int .i64 R) := by rw [hb3.cell (p := ⟨w.heap.size, _, none⟩) (by show w.heap.size < _; omega)]; exact z2
  have hs3 : w.heap.size + 2 ≤ w3.heap.size := Nat.le_trans hs1 hb3.size
  clear hb3 y0 y1 y2 z0 z1 z2
  obtain ⟨Z, hZ, hZ0, hmk⟩ : ∃ Z : Array Value, Z.size = S ∧ (∀ j, j < S → Z[j]? = some (.slice none 0 0)) ∧ (Instr.makeSlice 36 (.int .i64 (S : Int)) (.int .i64 (S : Int))).run Tryd.prog w3 = .ok (.slice (some ⟨w3.heap.size, 0, none⟩) S S) (w3.alloc (.cells Z 27)) := by
    obtain ⟨i0, hi, hz0, hz1, hz2⟩ := infoRows
    have := run_make (P := Tryd.prog) (w := w3) 36 27 i0 _ Tryd.underlying36 hi hz0 .i64 .i64 (S : Int) (S : Int) (by omega) (by omega) (by rw [hz2]; omega) (by omega)
    rw [hz1] at this
    refine ⟨madeCells (Value.slice none 0 0).cells (S * 1), by rw [size_madeCells]; omega, fun j hj => ?_, by simpa using this⟩
    have e := toList_madeCells_one (Value.slice none 0 0) (S * 1)
    have e2 : (madeCells (Value.slice none 0 0).cells (S * 1)).toList[j]? = some (.slice none 0 0) := by
      show (madeCells #[Value.slice none 0 0] (S * 1)).toList[j]? = _
      rw [e, List.getElem?_replicate, if_pos (by omega)]
    simpa using e2
  have HJ : Hid (SplJ w3 S (partOf S (rs.take 0)) (w3.alloc (.cells Z 27))) := splJ_start w3 S Z hZ hZ0 rs S
  have x2' : (w3.alloc (.cells Z 27)).cell? ⟨w.heap.size + 1, 2, none⟩ = some (.slice pr rs.length cr) := by rw [World.cell?_of_block (w := w3) (heap_alloc_old w3 _ (show w.heap.size + 1 < w3.heap.size by omega))]; exact x2
  obtain ⟨W3, hW3⟩ : ∃ W3, w3.alloc (.cells Z 27) = W3 := ⟨_, rfl⟩
  rw [hW3] at HJ hmk x2'
  clear hZ hZ0 hW3
  go_wp2_with fail
  go_loopg [28] rs.length (fun gf s28 wx => ∃ k : Nat, s28 = .int .i64 k ∧ k ≤ rs.length ∧ rs.length ≤ k + gf ∧ Hid (SplJ w3 S (partOf S (rs.take k)) wx))
  case atStart => exact ⟨0, rfl, by omega, by omega, HJ⟩
  case round =>
    clear HJ
    obtain ⟨k, rfl, hk1, hgf, HJ⟩ := hrel
    by_cases hk : k < rs.length
    · obtain ⟨g', rfl⟩ : ∃ g', gk = g' + 1 := ⟨gk - 1, by omega⟩
      have hbw : Below w3.heap.size w3 wr := by obtain ⟨_, _, _, _, _, h, _⟩ := HJ.out; exact h
      obtain ⟨b, o, rfl, hB, hcell⟩ := HR.out.2 (by omega)
      obtain ⟨pu, nu, cu, r0, r1⟩ := hcell k hk
      have hBw : Below w.heap.size w wr := HB3.out.trans (hbw.mono HB3.out.size)
      rw [← hBw.cell (p := ⟨b, _, none⟩) hB] at r0
      have rrow : RowV wr (.slice pu nu cu) rs[k] := (rowA_row r1).below hBw
      obtain ⟨hne, hl8, hval⟩ := HO.out rs[k] (List.getElem_mem hk)
      have hkk := HK.out rs[k] (List.getElem_mem hk)
      obtain ⟨r, hr⟩ : ∃ r, rs[k] = r := ⟨_, rfl⟩
      rw [hr] at rrow hne hl8 hval hkk
      obtain ⟨x, xs, rfl⟩ : ∃ x xs, r = x :: xs := by
        cases r with
        | nil => exact absurd rfl hne
        | cons x xs => exact ⟨x, xs, rfl⟩
      have hx := hval x (by simp)
      have hx0 := hkk x (by simp)
      have hsh := hashV_range x
      have c0 : wr.cell? ⟨w.heap.size, 0, none⟩ = some (.int .i64 N) := by rw [hbw.cell (p := ⟨w.heap.size, _, none⟩) (by show w.heap.size < _; omega)]; exact v0
      have c1 : wr.cell? ⟨w.heap.size, 1, none⟩ = some (.int .i64 S) := by rw [hbw.cell (p := ⟨w.heap.size, _, none⟩) (by show w.heap.size < _; omega)]; exact v1
      have c2 : wr.cell? ⟨w.heap.size, 2, none⟩ = some (.int .i64 R) := by rw [hbw.cell (p := ⟨w.heap.size, _, none⟩) (by show w.heap.size < _; omega)]; exact v2
      have CS : Hid (Calls Tryd.prog 28 #[.agg #[.int .i64 N, .int .i64 S, .int .i64 R], .slice pu nu cu] wr fun e w' => e = .returned (.int .i64 (shd S (x :: xs))) ∧ Below wr.heap.size wr w') := shardOf_any N S R _ x xs wr rrow (by omega) hx0 (by omega) (by omega) hsh
      obtain ⟨s, hsd, hsS⟩ : ∃ s : Nat, shd S (x :: xs) = (s : Int) ∧ s < S := by
        have h1 : 0 ≤ hashV x % (S : Int) := Int.emod_nonneg _ (by omega)
        have h2 : hashV x % (S : Int) < S := Int.emod_lt_of_pos _ (by omega)
        refine ⟨(hashV x % (S : Int)).toNat, ?_, by omega⟩
        show hashV x % (S : Int) = _
        omega
      rw [hsd] at CS
      have HP : Hid (partOf S (rs.take (k + 1)) = fun j => if j = s then partOf S (rs.take k) j ++ [x :: xs] else partOf S (rs.take k) j) := by
        show _ = _
        have := partOf_step S rs k hk s (by rw [hr]; exact hsd)
        rw [hr] at this
        exact this
      have HRw : Hid (RowV wr (.slice pu nu cu) (x :: xs)) := rrow
      have hlen : (partOf S (rs.take k) s).length ≤ 64 := Nat.le_trans (partOf_len _ _ _) (by simp; omega)
      have HV : Hid (∀ y ∈ x :: xs, y.s.size ≤ 281474976710656) := fun y hy => by have := (hval y hy).2; omega
      have HL8 : Hid ((x :: xs).length ≤ 8) := hl8
      have hz0 : (0 : Int) ≤ (k : Int) := by omega
      have hz1 : (k : Int) < (rs.length : Int) := by omega
      clear hcell r1 rrow hne hl8 hval hkk hr hx hx0 hsh hsd hbw hBw
      go_wp2_with fail
      refine CS.out.mono ?_
      rintro e w4 ⟨rfl, hb4⟩
      have HJ4 : Hid (SplJ w3 S (partOf S (rs.take k)) w4) := HJ.out.below hb4
      have HRw4 : Hid (RowV w4 (.slice pu nu cu) (x :: xs)) := HRw.out.below hb4
      clear hb4 CS HJ HRw c0 c1 c2 r0
      obtain ⟨⟨p0, n0, cc0, hv0⟩, hG⟩ := splJ_at HJ4.out hsS
      have CR : Hid (∀ W, Below w4.heap.size w4 W → Calls Tryd.prog 31 #[.slice pu nu cu] W fun e w' => ∃ u, e = .returned u ∧ OwnR W.heap.size w' u (x :: xs) ∧ Below W.heap.size W w') := fun W h => copyRow_any _ _ W (HRw4.out.below h) (by have := HL8.out; omega) HV.out
      have hz2 : (0 : Int) ≤ (s : Int) := by omega
      have hz3 : (s : Int) < (S : Int) := by omega
      go_wp2_with fail
      go_region_law
        ((first
          | (go_simp; go_at_call 31; refine (CR.out _ (Below.refl _ _).drew).mono ?_; rintro e w5 ⟨q5, rfl, hO5, hb5'⟩; obtain ⟨pq, nq, cq, rfl⟩ := ownR_form hO5; have hb5 := below_undrew hb5'; obtain ⟨pv, nv, cv, W6, hrun, hcell', hfro', hJ6⟩ := split_step2 HJ4.out hsS hb5 hO5 (by omega) hv0 27; have hv5 : w5.cell? ⟨w3.heap.size, s, none⟩ = some (.slice p0 n0 cc0) := (by rw [hb5.cell (by exact hG)]; exact hv0); have hv6 : (w5.alloc (.cells #[.slice pq nq cq] 25)).cell? ⟨w3.heap.size, s, none⟩ = some (.slice p0 n0 cc0) := (by rw [World.cell?_of_block (w := w5) (heap_alloc_old w5 _ (Nat.lt_of_lt_of_le hG hb5.size))]; exact hv5))
          | (refine step_append27 _ rfl _ _ rfl _ _ _ _ rfl rfl hrun ?_)))
      all_goals
        have HJ6 : Hid (SplJ w3 S (partOf S (rs.take (k + 1))) (W6.setCell ⟨w3.heap.size, s, none⟩ (.slice pv nv cv))) := by rw [HP.out]; exact hJ6
        generalize W6.setCell ⟨w3.heap.size, s, none⟩ (.slice pv nv cv) = W7 at HJ6 ⊢
        clear hJ6 hrun hcell' hfro' hv5 hv6 hb5 hb5' hO5
        go_wp2_with fail
        go_roundg g'
        case measure => omega
        case rel => exact ⟨k + 1, by go_num, by omega, by omega, HJ6⟩
    · have hend : k = rs.length := by omega
      subst hend
      have hz1 : ¬ (rs.length : Int) < (rs.length : Int) := by omega
      have HF : Hid (SplJ w3 S (partOf S rs) wr) := by have := HJ.out; rwa [List.take_length] at this
      clear HJ HR HK HO
      go_wp2_with fail
      go_ret2
      exact ⟨w3, rfl, HB3.out, HF.out⟩
end Go.Proofs.YthfoijnjgdeaaaaDoor
/- The law PlaceOnce: its pieces. -/
namespace Go.Proofs.YthfoijnjgdeaaaaDoor
open Go.Shelf Go.RowKit Go.Lib Go.Sort
set_option linter.unusedVariables false
set_option linter.unusedSimpArgs false
attribute [local go_sem ↓] Go.wp_at_zero Go.wp_at_succ
set_option maxRecDepth 100000 in
set_option maxHeartbeats 4000000 in
theorem shard_any (N S R : Int) (v : Value) (x : Val) (xs : List Val) (w : World) (h0 : layE N S R = 0) (hv : RowV w v (x :: xs)) (k0 : 0 ≤ x.k) (k1 : x.k ≤ 255) (hs : x.s.size ≤ 9223372036854775807) :
    Calls Tryd.prog 11 #[.agg #[.int .i64 N, .int .i64 S, .int .i64 R], v] w fun e w' => e = .returned (.tuple #[.int .i64 (shd S (x :: xs)), .int .i64 0]) ∧ Below w.heap.size w w' := by
  obtain ⟨a1, a2, a3, a4, a5, a6⟩ := layE_zero.1 h0
  have C1 : Hid (∀ W, Calls Tryd.prog 18 #[.agg #[.int .i64 N, .int .i64 S, .int .i64 R]] W fun e w' => e = .returned (.int .i64 0) ∧ Below W.heap.size W w') := fun W => by rw [← h0]; exact layCheck_any N S R W
  have C2 : Hid (∀ W, Below w.heap.size w W → Calls Tryd.prog 28 #[.agg #[.int .i64 N, .int .i64 S, .int .i64 R], v] W fun e w' => e = .returned (.int .i64 (shd S (x :: xs))) ∧ Below W.heap.size W w') := fun W h => shardOf_any N S R v x xs W (hv.below h) ⟨a3, a4⟩ k0 k1 hs (hashV_range x)
  obtain ⟨p, c, rfl, _, _⟩ := hv.form
  have hz : (((x :: xs).length : Int) == 0) = false := beq_eq_false_iff_ne.2 (by simp; omega)
  clear hv h0
  go_enter Tryd.func11, Tryd.ntmps11
  go_wp2_with fail
  refine (C1.out _).mono ?_
  rintro e w1 ⟨rfl, hb1⟩
  have y0 : w1.cell? ⟨w.heap.size, 0, none⟩ = some (.int .i64 N) := by rw [hb1.cell (by simp)]; exact cell_box w _ _ _ _ rfl
  have y1 : w1.cell? ⟨w.heap.size, 1, none⟩ = some (.int .i64 S) := by rw [hb1.cell (by simp)]; exact cell_box w _ _ _ _ rfl
  have y2 : w1.cell? ⟨w.heap.size, 2, none⟩ = some (.int .i64 R) := by rw [hb1.cell (by simp)]; exact cell_box w _ _ _ _ rfl
  have HB : Hid (Below w.heap.size w w1) := (box3_below w _ _ _).trans (hb1.mono (by simp))
  clear hb1
  go_wp2_with fail
  refine (C2.out _ HB.out).mono ?_
  rintro e w2 ⟨rfl, hb2⟩
  have HB2 : Hid (Below w.heap.size w w2) := HB.out.trans (hb2.mono HB.out.size)
  clear hb2
  go_wp2_with fail
  go_ret2
  exact ⟨rfl, HB2.out⟩
/-- Rows that are being put together, in memory that was made behind w1. -/
def PartA (w1 W : World) (v : Value) (ks : List (List Val)) : Prop := ∃ us, W.ownsRow w1.heap.size 25 1 v ks.length us ∧ ∀ j (h : j < ks.length), ∃ u, us[j]? = some u ∧ RowV w1 u ks[j]
theorem PartA.start (w : World) : PartA w w (.slice none 0 0) [] := ⟨[], World.ownsRow_nil _ _ _ _, fun j h => by simp at h⟩
theorem PartA.below {w1 W W' : World} {v : Value} {ks : List (List Val)} (h : PartA w1 W v ks) (hb : Below W.heap.size W W') : PartA w1 W' v ks := by
  obtain ⟨us, ho, hu⟩ := h
  exact ⟨us, ho.kept (grown_of_below hb) (by cases v.ownBlock <;> simp), hu⟩
theorem PartA.more {w1 W : World} {v vl : Value} {ks ls : List (List Val)} (h : PartA w1 W v ks) (hl : RowsL w1 vl ls) (hB : Below w1.heap.size w1 W) (hby : (ks.length + ls.length) * 24 ≤ 140737488355328) :
    ∃ p n c W', (Builtin.append_ #[27, 27] 27 #[v, vl]).run Tryd.prog W = .ok (.slice p n c) W' ∧ PartA w1 W' (.slice p n c) (ks ++ ls) ∧ Below w1.heap.size w1 W' := by
  obtain ⟨us, hown, hus⟩ := h
  have hul : us.length = ks.length := by simpa using hown.1
  obtain ⟨v', W', hs', e, ho2, hl2, hr2, hg2⟩ := rows_onto w1.heap.size w1 W 27 v vl ks.length us ls hown hl hB hB.size hby
  obtain ⟨p, n, c, rfl⟩ : ∃ p n c, v' = .slice p n c := by
    obtain ⟨_, ⟨rfl, _⟩ | ⟨g, cap, cu, rfl, _⟩⟩ := ho2 <;> exact ⟨_, _, _, rfl⟩
  refine ⟨p, n, c, W', e, ⟨us ++ hs', by simpa using ho2, fun j hj => ?_⟩, grown_below hB hg2 (fun k hk => (hown.lt k hk).1)⟩
  by_cases hj' : j < ks.length
  · obtain ⟨u', h1, h2⟩ := hus j hj'
    exact ⟨u', by rw [List.getElem?_append_left (by omega)]; exact h1, by rw [List.getElem_append_left hj']; exact h2⟩
  · obtain ⟨u', h1, h2⟩ := hr2 (j - ks.length) (by simp at hj; omega)
    exact ⟨u', by rw [List.getElem?_append_right (by omega), hul]; exact h1, by rw [List.getElem_append_right (by omega)]; exact h2⟩
theorem PartA.rows {w1 W : World} {v : Value} {ks : List (List Val)} (h : PartA w1 W v ks) (hb : Below w1.heap.size w1 W) (hn : ks.length ≤ 9223372036854775807) : RowsL W v ks := by
  obtain ⟨us, ho, hr⟩ := h
  exact own_rows ho rfl hn fun j hj => by
    obtain ⟨u, h1, h2⟩ := hr j hj
    exact ⟨u, h1, h2.below hb⟩
theorem SplJ.shard {w1 W : World} {S : Nat} {PT : Nat → List (List Val)} (h : SplJ w1 S PT W) {j : Nat} (hj : j < S) (hn : (PT j).length ≤ 9223372036854775807) : ∃ p c, W.cell? ⟨w1.heap.size, j, none⟩ = some (.slice p (PT j).length c) ∧ RowsL W (.slice p (PT j).length c) (PT j) := by
  obtain ⟨cur, U, hg, hc, hu, hB, hp, hd⟩ := h
  obtain ⟨hs, ho, hr⟩ := hp j hj
  have hl := own_rows ho rfl hn fun m hm => by
    obtain ⟨u, h1, h2⟩ := hr m hm
    exact ⟨u, h1, h2.row⟩
  have hcell : W.cell? ⟨w1.heap.size, j, none⟩ = some (U j) := by simp [World.cell?, hg, hu j hj]
  have hl2 := hl
  obtain ⟨p, c, e, _⟩ := hl
  rw [e] at hcell hl2
  exact ⟨p, c, hcell, hl2⟩
theorem rowsA_rows {w : World} {p : Option Addr} {rs : List (List Val)} (c : Nat) (h : RowsA w p rs) : RowsL w (.slice p rs.length c) rs := by
  refine ⟨p, c, rfl, h.1, fun h0 => ?_⟩
  obtain ⟨b, o, rfl, hlt, hc⟩ := h.2 h0
  refine ⟨b, o, rfl, hlt, fun j hj => ?_⟩
  obtain ⟨q, m, d, h1, h2⟩ := hc j hj
  exact ⟨_, h1, rowA_row h2⟩
theorem perm_at (r : List Val) (f : Nat → List (List Val)) (s : Nat) : ∀ n, s < n → ((List.range n).flatMap fun j => if j = s then r :: f j else f j).Perm (r :: (List.range n).flatMap f)
  | 0, h => by omega
  | n + 1, h => by
    rw [List.range_succ, List.flatMap_append, List.flatMap_append]
    by_cases e : s = n
    · subst e
      have e1 : ((List.range s).flatMap fun j => if j = s then r :: f j else f j) = (List.range s).flatMap f := Go.Deep.flatMap_congr_range fun j hj => by rw [if_neg (by omega)]
      rw [e1]
      simp only [List.flatMap_cons, List.flatMap_nil, List.append_nil, if_true]
      exact List.perm_middle
    · have ih := perm_at r f s n (by omega)
      simp only [List.flatMap_cons, List.flatMap_nil, List.append_nil]
      rw [if_neg (Ne.symm e)]
      exact (ih.append_right _).trans (List.Perm.refl _)
theorem perm_parts (S : Nat) : ∀ rs : List (List Val), (∀ r ∈ rs, ∃ s : Nat, shd S r = (s : Int) ∧ s < S) → ((List.range S).flatMap (partOf S rs)).Perm rs
  | [], _ => by
    have : ((List.range S).flatMap (partOf S [])) = [] := by simp [partOf]
    rw [this]
  | r :: rs, h => by
    obtain ⟨s, h1, h2⟩ := h r (by simp)
    have e : partOf S (r :: rs) = fun j => if j = s then r :: partOf S rs j else partOf S rs j := by
      funext j
      unfold partOf
      by_cases e : j = s
      · subst e; simp [h1]
      · rw [if_neg e, List.filter_cons_of_neg (by rw [h1]; simp; omega)]
    rw [e]
    exact (perm_at r _ s S h2).trans ((perm_parts S rs fun q hq => h q (by simp [hq])).cons r)
end Go.Proofs.YthfoijnjgdeaaaaDoor
