/- A batch put among those that are held, and passing on, as the reference does it. -/
import Derived.Test.YtcmiphgeakdonaaDf
namespace Go.Proofs.Ytcmiphgeakdonaa
open Go.Shelf Go.RowKit Go.Lib Go.Sort
set_option linter.unusedVariables false
set_option linter.unusedSimpArgs false
/-- How far the list with one more is made. -/
def bldB (b : Bat) (h : List Bat) (i : Nat) : List Bat := if h.findIdx (gtS b.s) < i then h.take (h.findIdx (gtS b.s)) ++ b :: (h.take i).drop (h.findIdx (gtS b.s)) else h.take i
theorem bld_zero (b : Bat) (h : List Bat) : bldB b h 0 = [] := by unfold bldB; rw [if_neg (by omega)]; simp
theorem bld_lt (b : Bat) (h : List Bat) (i : Nat) (hi : i < h.length) (hk : i < h.findIdx (gtS b.s)) : gtS b.s h[i] = false ∧ bldB b h (i + 1) = bldB b h i ++ [h[i]] := by
  refine ⟨by simpa using List.not_of_lt_findIdx hk, ?_⟩
  unfold bldB
  rw [if_neg (by omega), if_neg (by omega)]
  exact List.take_succ_eq_append_getElem hi
theorem bld_eq (b : Bat) (h : List Bat) (i : Nat) (hi : i < h.length) (hk : h.findIdx (gtS b.s) = i) : gtS b.s h[i] = true ∧ bldB b h (i + 1) = (bldB b h i ++ [b]) ++ [h[i]] := by
  subst hk
  refine ⟨List.findIdx_getElem, ?_⟩
  unfold bldB
  rw [if_pos (by omega), if_neg (by omega), List.take_succ_eq_append_getElem hi, List.drop_append_of_le_length (by rw [List.length_take]; omega), List.drop_of_length_le (by rw [List.length_take]; omega)]
  simp
theorem bld_gt (b : Bat) (h : List Bat) (i : Nat) (hi : i < h.length) (hk : h.findIdx (gtS b.s) < i) : bldB b h (i + 1) = bldB b h i ++ [h[i]] := by
  unfold bldB
  rw [if_pos (by omega), if_pos hk, List.take_succ_eq_append_getElem hi, List.drop_append_of_le_length (by simp; omega)]
  simp
theorem bld_put (b : Bat) (h : List Bat) (hk : h.findIdx (gtS b.s) < h.length) : bldB b h h.length = insB b h := by
  unfold bldB insB
  rw [if_pos hk, List.take_of_length_le (Nat.le_refl _)]
theorem bld_end (b : Bat) (h : List Bat) (hk : ¬ h.findIdx (gtS b.s) < h.length) : bldB b h h.length ++ [b] = insB b h := by
  unfold bldB insB
  rw [if_neg hk, List.take_of_length_le (Nat.le_refl _), List.take_of_length_le (by omega), List.drop_of_length_le (by omega)]
theorem bld_len (b : Bat) (h : List Bat) (i : Nat) : (bldB b h i).length ≤ i + 1 := by
  unfold bldB
  split
  · simp; omega
  · simp; omega
/-- The list that is made, in memory behind V. -/
structure LJ (KK : Nat → Prop) (V W : World) (u : Value) (l : List Bat) : Prop where
  own : OwnK KK rBat 3 91 V.heap.size W u l
  bel : Below V.heap.size V W
theorem LJ.kept {KK : Nat → Prop} {V W W' : World} {u : Value} {l : List Bat} (h : LJ KK V W u l) (hKK : ∀ b, KK b → b < V.heap.size) (hb : Below W.heap.size W W') : LJ KK V W' u l := by
  refine ⟨OwnK.kept mBat h.own (kept_of (fun b hb => ?_) hb), h.bel.trans (hb.mono h.bel.size)⟩
  rcases hb with h1 | h1
  · have := hKK b h1; have := h.bel.size; omega
  · obtain ⟨_, o, _⟩ := h.own; exact (o.lt b h1).2
theorem LJ.push {KK : Nat → Prop} {V W : World} {u : Value} {l : List Bat} (h : LJ KK V W u l) (hKK : ∀ b, KK b → b < V.heap.size) {cs : List Value} {y : Bat} (hr : rBat KK V cs y) (hlen : cs.length = 3) (hl : l.length ≤ 1000) :
    ∃ p c X2, (Builtin.append_ #[66, 66] 66 #[u, .slice (some ⟨W.heap.size, 0, none⟩) 1 1]).run Try.prog (W.alloc (.cells cs.toArray 91)) = .ok (.slice p (l.length + 1) c) X2 ∧ LJ KK V X2 (.slice p (l.length + 1) c) (l ++ [y]) ∧ Kept (fun b => b < W.heap.size ∧ u.ownBlock ≠ some b) W X2 := by
  obtain ⟨i0, hi0, hz0, hz1, hz2⟩ := inE_bat
  have hrW : rBat KK W cs y := mBat _ _ _ _ _ _ (fun _ h => h) (kept_of hKK h.bel) hr
  have hown : ∀ b, u.ownBlock = some b → V.heap.size ≤ b := fun b hb => by obtain ⟨_, o, _⟩ := h.own; exact (o.lt b hb).1
  obtain ⟨v', X2, e, hO, hk⟩ := OwnK.push mBat (bytes := 40) Try.underlying66 hi0 hz0 hz1 hz2 rfl (by decide) h.own h.bel.size hlen (bat_one hr) (fun b hb => ⟨Nat.lt_of_lt_of_le (hKK b hb) h.bel.size, fun e => by have := hown b e; have := hKK b hb; omega⟩) hrW (by omega) (by unfold maxLen; omega)
  obtain ⟨cells, oc, rc⟩ := id hO
  obtain ⟨p, c, rfl⟩ := owns_slice oc
  rw [List.length_append] at e hO
  refine ⟨p, c, X2, e, ⟨hO, ?_⟩, hk⟩
  have hkb : Kept (fun b => b < V.heap.size) W X2 := hk.less fun b hb => ⟨Nat.lt_of_lt_of_le hb h.bel.size, fun e => by have := hown b e; omega⟩
  exact ⟨hkb.os.trans h.bel.os, hkb.tape.trans h.bel.tape, hkb.output.trans h.bel.output, Nat.le_trans h.bel.size hkb.size, fun b hb => (hkb.block b hb).trans (h.bel.block b hb)⟩
/-- How it stands while the reference passes some on. -/
structure PasT (x : In_) (B R base : Nat) (KK : Nat → Prop) (w W : World) (hq : Option Addr) (hc : Nat) (rest : List Bat) (n : Nat) (d : Bool) (p : Option Addr) (c : Nat) (r : List (List Val)) : Prop where
  held : ListIs rBat 3 40 KK W (.slice hq rest.length hc) rest
  rows : OwnK KK rRow 1 96 base W (.slice p r.length c) r
  own : ∀ g, (Value.slice p r.length c).ownBlock = some g → ¬ KK g
  lt : ∀ g, KK g → base ≤ g ∧ g < W.heap.size
  big : base ≤ W.heap.size
  bel : Below w.heap.size w W
  box : W.heap[B]? = some (.cells #[.int .u64 (x.m.qb : Int), .int .u64 (x.m.qn : Int), .int .i64 x.m.at_, .int .i64 x.m.fr, .int .i64 x.m.tq, .int .u64 (n : Int), .slice hq rest.length hc, .slice p r.length c, .bool d] 68 (0, 0))
  res : W.heap[R]? = some (.cells #[.int .u64 0, .int .u64 0, .int .i64 0, .int .i64 0, .int .i64 0, .int .u64 0, .slice none 0 0, .slice none 0 0, .bool false] 68 (0, 0))
theorem PasT.kept {x : In_} {B R base : Nat} {KK : Nat → Prop} {w W : World} {hq : Option Addr} {hc : Nat} {rest : List Bat} {n : Nat} {d : Bool} {p : Option Addr} {c : Nat} {r : List (List Val)} (h : PasT x B R base KK w W hq hc rest n d p c r) {W' : World} (hb : Below W.heap.size W W') : PasT x B R base KK w W' hq hc rest n d p c r := by
  have hk : Kept KK W W' := kept_of (fun b hb => (h.lt b hb).2) hb
  refine ⟨h.held.mono mBat (fun _ h => h) hk, OwnK.kept mRow h.rows (kept_of (fun b hb => ?_) hb), h.own, fun g hg => ⟨(h.lt g hg).1, Nat.lt_of_lt_of_le (h.lt g hg).2 hb.size⟩, Nat.le_trans h.big hb.size, h.bel.trans (hb.mono h.bel.size), (hb.block _ (Array.getElem?_eq_some_iff.1 h.box).1).trans h.box, (hb.block _ (Array.getElem?_eq_some_iff.1 h.res).1).trans h.res⟩
  rcases hb with h1 | h1
  · exact (h.lt b h1).2
  · obtain ⟨_, o, _⟩ := h.rows; exact (o.lt b h1).2
theorem PasT.step {x : In_} {B R base : Nat} {KK : Nat → Prop} {w W : World} {hq : Option Addr} {hc : Nat} {b : Bat} {bs : List Bat} {n : Nat} {d : Bool} {p : Option Addr} {c : Nat} {r : List (List Val)} (h : PasT x B R base KK w W hq hc (b :: bs) n d p c r) (hB : w.heap.size ≤ B ∧ B < base) (hR : w.heap.size ≤ R ∧ R < base) (hBR : B ≠ R) {pm : Option Addr} {cm : Nat} (hm : ListIs rRow 1 24 KK W (.slice pm b.r.length cm) b.r) (hlen : r.length + b.r.length ≤ 1000000) {bx : Nat} (hbx : bx < W.heap.size ∧ bx ≠ B ∧ (Value.slice p r.length c).ownBlock ≠ some bx) :
    ∃ p' c' X2, (Builtin.append_ #[30, 30] 30 #[.slice p r.length c, .slice pm b.r.length cm]).run Try.prog W = .ok (.slice p' (r.length + b.r.length) c') X2 ∧ X2.cell? ⟨B, 7, none⟩ = some (.slice p r.length c) ∧ X2.frozen? ⟨B, 7, none⟩ = false ∧
      ∃ X3, X2.setCell ⟨B, 7, none⟩ (.slice p' (r.length + b.r.length) c') = X3 ∧ X3.cell? ⟨B, 5, none⟩ = some (.int .u64 (n : Int)) ∧ X3.frozen? ⟨B, 5, none⟩ = false ∧
      ∃ X4, X3.setCell ⟨B, 5, none⟩ (.int .u64 ((n : Int) + 1)) = X4 ∧ X4.cell? ⟨B, 6, none⟩ = some (.slice hq (b :: bs).length hc) ∧ X4.frozen? ⟨B, 6, none⟩ = false ∧
      ∀ hq' hc', ListIs rBat 3 40 KK W (.slice hq' bs.length hc') bs → ∃ X5, X4.setCell ⟨B, 6, none⟩ (.slice hq' bs.length hc') = X5 ∧ X5.cell? ⟨B, 8, none⟩ = some (.bool d) ∧ X5.frozen? ⟨B, 8, none⟩ = false ∧ (∀ k, X5.cell? ⟨bx, k, none⟩ = W.cell? ⟨bx, k, none⟩) ∧
      ∃ X6, X5.setCell ⟨B, 8, none⟩ (.bool b.l) = X6 ∧ PasT x B R base KK w X6 hq' hc' bs (n + 1) b.l p' c' (r ++ b.r) := by
  obtain ⟨i0, hi0, hz0, hz1, hz2⟩ := inE_row
  have hbl := (Array.getElem?_eq_some_iff.1 h.box).1
  have hrl := (Array.getElem?_eq_some_iff.1 h.res).1
  have hlow : ∀ g, (Value.slice p r.length c).ownBlock = some g → base ≤ g := fun g hg => by obtain ⟨_, o, _⟩ := h.rows; exact (o.lt g hg).1
  obtain ⟨v', X2, e, hO, hk, hob⟩ := OwnK.app mRow (bytes := 24) Try.underlying30 hi0 hz0 hz1 hz2 rfl (by decide) h.rows h.big hm row_one (fun b hb => ⟨(h.lt b hb).1, (h.lt b hb).2, fun e => h.own b e hb⟩) (by omega) (by unfold maxLen; omega) 30
  obtain ⟨cells, oc, rc⟩ := id hO
  obtain ⟨p', c', rfl⟩ := owns_slice oc
  rw [List.length_append] at e hob
  have hs2 := hk.size
  have hgB : X2.heap[B]? = some (.cells ([.int .u64 (x.m.qb : Int), .int .u64 (x.m.qn : Int), .int .i64 x.m.at_, .int .i64 x.m.fr, .int .i64 x.m.tq, .int .u64 (n : Int), .slice hq (b :: bs).length hc, .slice p r.length c, .bool d] : List Value).toArray 68 (0, 0)) := (hk.block _ ⟨hbl, fun e => by have := hlow _ e; omega⟩).trans h.box
  obtain ⟨X3, hX3, hc7, hf7, hg3, hs3, hk3⟩ := box_put hgB (k := 7) (u := .slice p r.length c) rfl (.slice p' (r.length + b.r.length) c')
  have hg3' : X3.heap[B]? = some (.cells ([.int .u64 (x.m.qb : Int), .int .u64 (x.m.qn : Int), .int .i64 x.m.at_, .int .i64 x.m.fr, .int .i64 x.m.tq, .int .u64 (n : Int), .slice hq (b :: bs).length hc, .slice p' (r.length + b.r.length) c', .bool d] : List Value).toArray 68 (0, 0)) := hg3
  obtain ⟨X4, hX4, hc5, hf5, hg4, hs4, hk4⟩ := box_put hg3' (k := 5) (u := .int .u64 (n : Int)) rfl (.int .u64 ((n : Int) + 1))
  have hg4' : X4.heap[B]? = some (.cells ([.int .u64 (x.m.qb : Int), .int .u64 (x.m.qn : Int), .int .i64 x.m.at_, .int .i64 x.m.fr, .int .i64 x.m.tq, .int .u64 ((n : Int) + 1), .slice hq (b :: bs).length hc, .slice p' (r.length + b.r.length) c', .bool d] : List Value).toArray 68 (0, 0)) := hg4
  refine ⟨p', c', X2, e, hc7, hf7, X3, hX3, hc5, hf5, X4, hX4, cell_of_row (k := 6) hg4' rfl, frozen_zero hg4' 6, fun hq' hc' hl => ?_⟩
  obtain ⟨X5, hX5, hc6, hf6, hg5, hs5, hk5⟩ := box_put hg4' (k := 6) (u := .slice hq (b :: bs).length hc) rfl (.slice hq' bs.length hc')
  have hg5' : X5.heap[B]? = some (.cells ([.int .u64 (x.m.qb : Int), .int .u64 (x.m.qn : Int), .int .i64 x.m.at_, .int .i64 x.m.fr, .int .i64 x.m.tq, .int .u64 ((n : Int) + 1), .slice hq' bs.length hc', .slice p' (r.length + b.r.length) c', .bool d] : List Value).toArray 68 (0, 0)) := hg5
  obtain ⟨X6, hX6, hc8, hf8, hg6, hs6, hk6⟩ := box_put hg5' (k := 8) (u := .bool d) rfl (.bool b.l)
  have hg6' : X6.heap[B]? = some (.cells #[.int .u64 (x.m.qb : Int), .int .u64 (x.m.qn : Int), .int .i64 x.m.at_, .int .i64 x.m.fr, .int .i64 x.m.tq, .int .u64 ((n : Int) + 1), .slice hq' bs.length hc', .slice p' (r.length + b.r.length) c', .bool b.l] 68 (0, 0)) := hg6
  have k35 : Kept (fun b => b ≠ B) X2 X5 := (hk3.trans hk4).trans hk5
  have kA : Kept (fun b => b ≠ B) X2 X6 := k35.trans hk6
  refine ⟨X5, hX5, hc8, hf8, fun k => World.cell?_of_block ((k35.block bx hbx.2.1).trans (hk.block bx ⟨hbx.1, hbx.2.2⟩)), X6, hX6, ?_⟩
  have kK : Kept KK W X6 := (hk.less fun g hg => ⟨(h.lt g hg).2, fun e => h.own g e hg⟩).trans (kA.less fun g hg => by have := (h.lt g hg).1; show _ ≠ _; omega)
  have own' : ∀ g, (Value.slice p' (r.length + b.r.length) c').ownBlock = some g → ¬ KK g ∧ base ≤ g := fun g hg => by
    rcases hob with e | e
    · rw [e] at hg; exact ⟨h.own g hg, hlow g hg⟩
    · rw [e] at hg; cases hg; exact ⟨fun h2 => by have := (h.lt _ h2).2; omega, h.big⟩
  have hkb : Kept (fun g => g < w.heap.size) W X6 := (hk.less fun g hg => ⟨by omega, fun e => by have := hlow _ e; omega⟩).trans (kA.less fun g hg => by show g ≠ _; omega)
  refine ⟨hl.mono mBat (fun _ h => h) kK, OwnK.kept mRow hO (kA.less fun g hg => ?_), ?_, fun g hg => ⟨(h.lt g hg).1, by have := (h.lt g hg).2; omega⟩, by have := h.big; omega, ?_, ?_, ?_⟩
  · show g ≠ _
    rcases hg with h2 | h2
    · have := (h.lt g h2).1; omega
    · rw [List.length_append] at h2
      have := (own' g h2).2; omega
  · rw [List.length_append]; exact fun g hg => (own' g hg).1
  · exact ⟨hkb.os.trans h.bel.os, hkb.tape.trans h.bel.tape, hkb.output.trans h.bel.output, by have := h.bel.size; omega, fun j hj => (hkb.block j hj).trans (h.bel.block j hj)⟩
  · rw [List.length_append]; exact hg6'
  · exact (kA.block _ (Ne.symm hBR)).trans ((hk.block _ ⟨hrl, fun e => by have := hlow _ e; omega⟩).trans h.res)
end Go.Proofs.Ytcmiphgeakdonaa
