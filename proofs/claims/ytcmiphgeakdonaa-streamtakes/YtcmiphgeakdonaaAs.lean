/- What need not be held: what pass answers. -/
import Derived.Test.YtcmiphgeakdonaaAr
namespace Go.Proofs.Ytcmiphgeakdonaa
open Go.Shelf Go.RowKit Go.Lib Go.Sort
set_option linter.unusedVariables false
set_option linter.unusedSimpArgs false
attribute [local go_sem ↓] Go.wp_at_zero Go.wp_at_succ
/-- A row of one's own whose parts lie in known blocks. -/
def OwnK {α : Type} (K : Nat → Prop) (rel : Rel α) (size : Nat) (te : TypeId) (base : Nat) (W : World) (u : Value) (xs : List α) : Prop :=
  ∃ cells : List Value, W.ownsRow base te size u xs.length cells ∧ ∀ j (h : j < xs.length), rel K W ((cells.drop (j * size)).take size) xs[j]
/-- A list behind one that is one's own. -/
theorem OwnK.app {α : Type} {rel : Rel α} (hm : Mono rel) {size bytes : Nat} {ts te : TypeId} {i0 : TypeInfo} {z : Value} (hu : Try.prog.underlying ts = some (.slice te)) (hi : Try.prog.info? te = some i0) (hz : i0.zero = some z) (hs : i0.size = size) (hby : i0.bytes = bytes) (hzs : z.cells.size = size) (hs0 : 0 < size)
    {base : Nat} {X : World} {u : Value} {xs : List α} {K : Nat → Prop} (h : OwnK K rel size te base X u xs) (hbase : base ≤ X.heap.size) {q : Option Addr} {c : Nat} {ys : List α} (hy : ListIs rel size bytes K X (.slice q ys.length c) ys) (hone : ∀ cs y, rel K X cs y → ∀ u ∈ cs, u.oneCell' = true) (hK : ∀ b, K b → base ≤ b ∧ b < X.heap.size ∧ u.ownBlock ≠ some b)
    (hbytes : (xs.length + ys.length) * bytes ≤ 140737488355328) (hmax : xs.length + ys.length ≤ maxLen) (ty : TypeId) :
    ∃ v' X2, (Builtin.append_ #[ts, ts] ty #[u, .slice q ys.length c]).run Try.prog X = .ok v' X2 ∧ OwnK K rel size te base X2 v' (xs ++ ys) ∧ Kept (fun b => b < X.heap.size ∧ u.ownBlock ≠ some b) X X2 ∧ (v'.ownBlock = u.ownBlock ∨ v'.ownBlock = some X.heap.size) := by
  obtain ⟨cells, ho, hrr⟩ := h
  obtain ⟨q', c', e, _, hq⟩ := hy
  cases e
  have main : ∀ (a : Addr), q = some a → (∃ news : List Value, news.length = ys.length * size ∧ (∀ i u, news[i]? = some u → X.cell? (a.add i) = some u) ∧ ∀ j (hj : j < ys.length), rel K X ((news.drop (j * size)).take size) ys[j]) → ∃ v' X2, (Builtin.append_ #[ts, ts] ty #[u, .slice q ys.length c]).run Try.prog X = .ok v' X2 ∧ OwnK K rel size te base X2 v' (xs ++ ys) ∧ Kept (fun b => b < X.heap.size ∧ u.ownBlock ≠ some b) X X2 ∧ (v'.ownBlock = u.ownBlock ∨ v'.ownBlock = some X.heap.size) := by
    rintro a rfl ⟨news, n1, n2, n3⟩
    have hone2 : ∀ u ∈ news, u.oneCell' = true := by
      intro v hv
      obtain ⟨i, hi', rfl⟩ := List.getElem_of_mem hv
      have hdm := Nat.div_add_mod i size
      have hml := Nat.mod_lt i hs0
      have hjl : i / size < ys.length := (Nat.div_lt_iff_lt_mul hs0).2 (by omega)
      refine hone _ _ (n3 (i / size) hjl) _ ?_
      rw [List.mem_take_iff_getElem]
      have e1 : i / size * size + i % size = i := by rw [Nat.mul_comm]; exact hdm
      refine ⟨i % size, by rw [List.length_drop]; omega, ?_⟩
      rw [List.getElem_drop]
      congr 1
    obtain ⟨v', X2, e2, ho2, h5, _, h6⟩ := run_append_own_at (P := Try.prog) X base ts ty te i0 z size bytes hu hi hz hs hby hzs hs0 u xs.length cells ho a ys.length c news n1 n2 hone2 hmax hbytes hbase
    have hk : Kept (fun b => b < X.heap.size ∧ u.ownBlock ≠ some b) X X2 := ⟨h5.os, h5.tape, h5.output, h5.size, fun b hb => h5.block b hb.1 (fun e => hb.2 e.symm)⟩
    refine ⟨v', X2, e2, ⟨cells ++ news, by rw [List.length_append]; exact ho2, fun j hj => ?_⟩, hk, h6⟩
    · have hj2 : j < xs.length + ys.length := by simpa using hj
      by_cases hjn : j < xs.length
      · rw [part_be ho.1 hjn, List.getElem_append_left hjn]
        exact hm _ _ _ _ _ _ (fun _ h => h) (hk.less fun b h => ⟨(hK b h).2.1, (hK b h).2.2⟩) (hrr j hjn)
      · rw [part_in ho.1 n1 (by omega), List.getElem_append_right (by omega)]
        exact hm _ _ _ _ _ _ (fun _ h => h) (hk.less fun b h => ⟨(hK b h).2.1, (hK b h).2.2⟩) (n3 (j - xs.length) (by omega))
  by_cases h0 : 0 < ys.length
  · obtain ⟨b, o, rfl, hKb, hc⟩ := hq h0
    obtain ⟨news, n1, n2, n3⟩ := list_cells hc ys.length (Nat.le_refl _)
    exact main _ rfl ⟨news, n1, fun i u hu => by rw [addr_add]; exact n2 i u hu, fun j hj => n3 j hj hj⟩
  · have hnil : ys = [] := List.eq_nil_of_length_eq_zero (by omega)
    cases q with
    | some a => exact main a rfl ⟨[], by rw [hnil]; simp, fun i u hu => by simp at hu, fun j hj => by omega⟩
    | none =>
      subst hnil
      refine ⟨u, X, run_append_noneC base ts ty te i0 size c hu hi u xs.length cells ho, ?_, Kept.refl _ _, .inl rfl⟩
      rw [List.append_nil]
      exact ⟨cells, ho, hrr⟩
/-- What is passed on of a stream that is received. -/
def passP : Nat → Bool → List (List Val) → List Bat → Nat × Bool × List (List Val) × List Bat
  | n, d, r, [] => (n, d, r, [])
  | n, d, r, b :: bs => if b.s = n then passP (n + 1) b.l (r ++ b.r) bs else (n, d, r, b :: bs)
def passI (x : In_) : In_ := ⟨x.m, (passP x.n x.d x.r x.h).1, (passP x.n x.d x.r x.h).2.2.2, (passP x.n x.d x.r x.h).2.2.1, (passP x.n x.d x.r x.h).2.1⟩
/-- A stream that is received, handed back, in memory from base on. -/
def InR (P : Nat → Prop) (base : Nat) (w : World) (y : In_) (e : Ending) (w' : World) : Prop := ∃ q c q2 c2, e = .returned (.agg #[.int .u64 (y.m.qb : Int), .int .u64 (y.m.qn : Int), .int .i64 y.m.at_, .int .i64 y.m.fr, .int .i64 y.m.tq, .int .u64 (y.n : Int), .slice q y.h.length c, .slice q2 y.r.length c2, .bool y.d]) ∧ ListIs rBat 3 40 (fun b => From base w' b ∧ P b) w' (.slice q y.h.length c) y.h ∧ ListIs rRow 1 24 (fun b => From base w' b ∧ P b) w' (.slice q2 y.r.length c2) y.r ∧ Below base w w'
/-- How it stands while some are passed on. -/
structure PasI (x : In_) (p1 : Option Addr) (r1 : Nat) (ob : Option Nat) (KK : Nat → Prop) (base : Nat) (w W : World) (hv : Value) (rest : List Bat) (n : Nat) (d : Bool) (p : Option Addr) (c : Nat) (r : List (List Val)) : Prop where
  held : ListIs rBat 3 40 KK W hv rest
  rows : OwnK KK rRow 1 96 base W (.slice p r.length c) r
  own : ∀ g, (Value.slice p r.length c).ownBlock = some g → ¬ KK g ∧ ((g < w.heap.size ∧ ob = some g) ∨ w.heap.size + 2 ≤ g)
  bel : Below base w W
  kp : Kept (fun g => g < w.heap.size ∧ ob ≠ some g) w W
  size : w.heap.size + 2 ≤ W.heap.size
  box : W.heap[w.heap.size]? = some (.cells #[.int .u64 (x.m.qb : Int), .int .u64 (x.m.qn : Int), .int .i64 x.m.at_, .int .i64 x.m.fr, .int .i64 x.m.tq, .int .u64 (n : Int), .slice p1 x.h.length r1, .slice p r.length c, .bool d] 68 (0, 0))
  res : W.heap[w.heap.size + 1]? = some (.cells #[.int .u64 0, .int .u64 0, .int .i64 0, .int .i64 0, .int .i64 0, .int .u64 0, .slice none 0 0, .slice none 0 0, .bool false] 68 (0, 0))
theorem PasI.later {x : In_} {p1 : Option Addr} {r1 : Nat} {ob : Option Nat} {KK : Nat → Prop} {base : Nat} {w W W' : World} {hv : Value} {rest : List Bat} {n : Nat} {d : Bool} {p : Option Addr} {c : Nat} {r : List (List Val)} (h : PasI x p1 r1 ob KK base w W hv rest n d p c r) (he : W'.heap = W.heap) (ho : W'.os = W.os) (ht : W'.tape = W.tape) (hp : W'.output = W.output) : PasI x p1 r1 ob KK base w W' hv rest n d p c r := by
  have hk : ∀ Q : Nat → Prop, Kept Q W W' := fun Q => ⟨ho, ht, hp, by rw [he]; exact Nat.le_refl _, fun b _ => by rw [he]⟩
  refine ⟨h.held.mono mBat (fun _ h => h) (hk _), ?_, h.own, ⟨ho.trans h.bel.os, ht.trans h.bel.tape, hp.trans h.bel.output, by rw [he]; exact h.bel.size, fun j hj => by rw [he]; exact h.bel.block j hj⟩, h.kp.trans (hk _), by rw [he]; exact h.size, by rw [he]; exact h.box, by rw [he]; exact h.res⟩
  obtain ⟨cl, o, rr⟩ := h.rows
  exact ⟨cl, owns_kept o (fun g _ => by rw [he]), fun j hj => mRow _ _ _ _ _ _ (fun _ h => h) (hk _) (rr j hj)⟩
theorem bat_tail {KK : Nat → Prop} {W : World} {b o m c : Nat} {y : Bat} {ys : List Bat} (h : ListIs rBat 3 40 KK W (.slice (some ⟨b, o, none⟩) m c) (y :: ys)) : ListIs rBat 3 40 KK W (.slice (some ⟨b, o + 3, none⟩) ys.length (c - 1)) ys ∧ (c = 1 → ys.length = 0 ∧ ListIs rBat 3 40 KK W (.slice (some ⟨b, o, none⟩) 0 0) ys) := by
  obtain ⟨q, c', e, h1, hp⟩ := h
  cases e
  simp only [List.length_cons] at h1 hp
  refine ⟨⟨_, _, rfl, ⟨by omega, by omega⟩, fun h0 => ?_⟩, fun hc => ⟨by omega, ⟨_, _, by rw [show ys.length = 0 by omega], ⟨by omega, by omega⟩, fun h0 => by omega⟩⟩⟩
  obtain ⟨b', o', e, hKb, hc⟩ := hp (by omega)
  cases e
  refine ⟨b, o + 3, rfl, hKb, fun j hj => ?_⟩
  obtain ⟨cs, k1, k2, k3⟩ := hc (j + 1) (by omega)
  exact ⟨cs, k1, fun i u hu => by have := k2 i u hu; rwa [show o + (j + 1) * 3 + i = o + 3 + j * 3 + i by omega] at this, by simpa using k3⟩
theorem step_appR {ops : Array Oper} {o : Oper} {a : Act} {K : Act → World → Prop} {Q : Exit → Act → World → Prop} {E : Prop} (W : World) (t : TypeId) (hgd : o.guard = none) (s x : Operand)
    (ho : o.op = .call { callee := .builtin .append, args := #[s, x], argTypes := #[t, t] }) (vs vx v' : Value) (W' : World) (hs : a.eval s = vs) (hx : a.eval x = vx)
    (hrun : (Builtin.append_ #[t, t] o.type #[vs, vx]).run Try.prog W = .ok v' W') (h : K (a.put o.dst v') W') :
    if Region.wanted o (yielded ops a.tmps) = true then Oper.wp Try.prog o a W K Q else E := by
  have hw : Region.wanted o (yielded ops a.tmps) = true := by simp [Region.wanted, hgd]
  rw [if_pos hw]
  unfold Oper.wp execOp
  simp only [ho, resolve, invoke, builtin, Sem.run_bind, Sem.run_pure, Result.andThen_ok, List.map_toArray, List.map_cons, List.map_nil, hs, hx, hrun]
  exact h
theorem OwnK.list {α : Type} {K P : Nat → Prop} {rel : Rel α} (hm : Mono rel) {size bytes : Nat} {te : TypeId} {base : Nat} {W : World} {u : Value} {xs : List α} (h : OwnK K rel size te base W u xs) (hK : ∀ b, K b → base ≤ b ∧ b < W.heap.size ∧ P b) (hO : ∀ g, u.ownBlock = some g → P g) (hb : xs.length * bytes ≤ 140737488355328) : ∃ p c, u = .slice p xs.length c ∧ ListIs rel size bytes (fun b => From base W b ∧ P b) W (.slice p xs.length c) xs := by
  obtain ⟨cells, ho, hr⟩ := h
  have hr2 : ∀ j (h : j < xs.length), rel (fun b => From base W b ∧ P b) W ((cells.drop (j * size)).take size) xs[j] := fun j hj => hm _ _ _ _ _ _ (fun b h => ⟨⟨(hK b h).1, (hK b h).2.1⟩, (hK b h).2.2⟩) ⟨rfl, rfl, rfl, Nat.le_refl _, fun _ _ => rfl⟩ (hr j hj)
  obtain ⟨hl, ⟨rfl, hn⟩ | ⟨g, cap, cur, rfl, hbg, hg, hnc, hcm, hcs, htake⟩⟩ := ho
  · exact ⟨none, 0, by rw [hn], none, 0, by rw [hn], ⟨hb, by omega⟩, fun h => by omega⟩
  · refine ⟨_, cap, rfl, _, cap, rfl, ⟨hb, hnc⟩, fun _ => ⟨g, 0, rfl, ⟨⟨hbg, (Array.getElem?_eq_some_iff.1 hg).1⟩, hO g rfl⟩, fun j hj => ⟨_, ?_, fun i u hu => ?_, hr2 j hj⟩⟩⟩
    · have h1 : j * size + size ≤ xs.length * size := by
        have := Nat.mul_le_mul_right size (show j + 1 ≤ xs.length by omega)
        rwa [Nat.add_mul, Nat.one_mul] at this
      rw [List.length_take, List.length_drop, hl]; omega
    · have hi : i < size := by
        have := (List.getElem?_eq_some_iff.1 hu).1
        rw [List.length_take] at this; omega
      rw [List.getElem?_take_of_lt hi, List.getElem?_drop, ← htake] at hu
      have hlt : j * size + i < xs.length * size := by
        have := Nat.mul_le_mul_right size (show j + 1 ≤ xs.length by omega)
        rw [Nat.add_mul, Nat.one_mul] at this; omega
      rw [List.getElem?_take_of_lt hlt] at hu
      rw [Nat.zero_add]
      exact cell_of_row hg (by simpa using hu)
theorem OwnK.kept {α : Type} {K : Nat → Prop} {rel : Rel α} (hm : Mono rel) {size : Nat} {te : TypeId} {base : Nat} {W W' : World} {u : Value} {xs : List α} (h : OwnK K rel size te base W u xs) (hk : Kept (fun b => K b ∨ u.ownBlock = some b) W W') : OwnK K rel size te base W' u xs := by
  obtain ⟨cells, o, r⟩ := h
  exact ⟨cells, owns_kept o (fun g hg => hk.block g (.inr hg)), fun j hj => hm _ _ _ _ _ _ (fun _ h => h) (hk.less fun _ h => .inl h) (r j hj)⟩
theorem box_put {W : World} {B : Nat} {cl : List Value} {t : TypeId} (hg : W.heap[B]? = some (.cells cl.toArray t (0, 0))) {k : Nat} {u : Value} (hk : cl[k]? = some u) (v : Value) : ∃ V, W.setCell ⟨B, k, none⟩ v = V ∧ W.cell? ⟨B, k, none⟩ = some u ∧ W.frozen? ⟨B, k, none⟩ = false ∧ V.heap[B]? = some (.cells (cl.set k v).toArray t (0, 0)) ∧ V.heap.size = W.heap.size ∧ Kept (fun b => b ≠ B) W V := by
  obtain ⟨a1, a2, a3, a4, a5⟩ := setCell_any W B k v
  refine ⟨_, rfl, cell_of_row hg (by simpa using hk), frozen_zero hg k, ?_, a1, ⟨a2, a3, a4, by omega, a5⟩⟩
  rw [heap_setCell_same W B k cl.toArray t v hg]
  simp
theorem PasI.fin {x : In_} {p1 : Option Addr} {r1 : Nat} {ob : Option Nat} {KK P : Nat → Prop} {base : Nat} {w W : World} {q : Option Addr} {cq : Nat} {rest : List Bat} {n : Nat} {d : Bool} {p : Option Addr} {c : Nat} {r : List (List Val)} (h : PasI x p1 r1 ob KK base w W (.slice q rest.length cq) rest n d p c r) (hKK : ∀ b, KK b → base ≤ b ∧ b < w.heap.size ∧ P b) (hP : ∀ g, w.heap.size ≤ g → P g) (hO : ∀ g, ob = some g → P g) (hbase : base ≤ w.heap.size) (hrest : rest.length ≤ 1000000) (hr : r.length ≤ 1000000) (ty : TypeId) :
    ∃ q3 c3 X2, (Builtin.append_ #[66, 66] ty #[.slice none 0 0, .slice q rest.length cq]).run Try.prog W = .ok (.slice q3 rest.length c3) X2 ∧ X2.cell? ⟨w.heap.size, 6, none⟩ = some (.slice p1 x.h.length r1) ∧ X2.frozen? ⟨w.heap.size, 6, none⟩ = false ∧ ∃ V, X2.setCell ⟨w.heap.size, 6, none⟩ (.slice q3 rest.length c3) = V ∧ V.rangeAt w.heap.size 0 [.int .u64 (x.m.qb : Int), .int .u64 (x.m.qn : Int), .int .i64 x.m.at_, .int .i64 x.m.fr, .int .i64 x.m.tq, .int .u64 (n : Int), .slice q3 rest.length c3, .slice p r.length c, .bool d] ∧ V.there (w.heap.size + 1) 0 9 ∧ ∃ X, V.setCells (w.heap.size + 1) 0 [.int .u64 (x.m.qb : Int), .int .u64 (x.m.qn : Int), .int .i64 x.m.at_, .int .i64 x.m.fr, .int .i64 x.m.tq, .int .u64 (n : Int), .slice q3 rest.length c3, .slice p r.length c, .bool d] = X ∧ (loadVar 68 ⟨w.heap.size + 1, 0, none⟩).run Try.prog X = .ok (.agg #[.int .u64 (x.m.qb : Int), .int .u64 (x.m.qn : Int), .int .i64 x.m.at_, .int .i64 x.m.fr, .int .i64 x.m.tq, .int .u64 (n : Int), .slice q3 rest.length c3, .slice p r.length c, .bool d]) X ∧ ListIs rBat 3 40 (fun b => From base X b ∧ P b) X (.slice q3 rest.length c3) rest ∧ ListIs rRow 1 24 (fun b => From base X b ∧ P b) X (.slice p r.length c) r ∧ Below base w X ∧ Kept (fun g => g < w.heap.size ∧ ob ≠ some g) w X := by
  obtain ⟨i0, hi0, hz0, hz1, hz2⟩ := inE_bat
  have hsz := h.size
  have hnil : OwnK KK rBat 3 91 base W (.slice none 0 0) ([] : List Bat) := ⟨[], World.ownsRow_nil _ _ _ _, fun j hj => by simp at hj⟩
  obtain ⟨v', X2, e, hO, hk, hob⟩ := OwnK.app mBat (bytes := 40) Try.underlying66 hi0 hz0 hz1 hz2 rfl (by decide) hnil (by omega) h.held (fun cs y hy => bat_one hy) (fun b hb => ⟨(hKK b hb).1, by have := (hKK b hb).2.1; omega, by simp [Value.ownBlock]⟩) (by simp; omega) (by simp [maxLen]; omega) ty
  rw [List.nil_append] at hO
  obtain ⟨cells, oc, rc⟩ := hO
  obtain ⟨q3, c3, rfl⟩ := owns_slice oc
  have hall : ∀ b, b < W.heap.size → X2.heap[b]? = W.heap[b]? := fun b hb => hk.block b ⟨hb, by simp [Value.ownBlock]⟩
  have hs2 := hk.size
  have hob2 : ∀ g, (Value.slice q3 rest.length c3).ownBlock = some g → g = W.heap.size := fun g hg => by
    rcases hob with e | e
    · rw [e] at hg; simp [Value.ownBlock] at hg
    · rw [e] at hg; cases hg; rfl
  obtain ⟨V, hV, hc6, hf6, hgV, hsV, hkV⟩ := box_put (cl := [.int .u64 (x.m.qb : Int), .int .u64 (x.m.qn : Int), .int .i64 x.m.at_, .int .i64 x.m.fr, .int .i64 x.m.tq, .int .u64 (n : Int), .slice p1 x.h.length r1, .slice p r.length c, .bool d]) ((hall _ (by omega)).trans h.box) (k := 6) (u := .slice p1 x.h.length r1) rfl (.slice q3 rest.length c3)
  have hgV2 : V.heap[w.heap.size]? = some (.cells #[.int .u64 (x.m.qb : Int), .int .u64 (x.m.qn : Int), .int .i64 x.m.at_, .int .i64 x.m.fr, .int .i64 x.m.tq, .int .u64 (n : Int), .slice q3 rest.length c3, .slice p r.length c, .bool d] 68 (0, 0)) := hgV
  obtain ⟨hth, X, hX, hld, hsX, hkX⟩ := put_row V (w.heap.size + 1) _ 68 ((hkV.block _ (by show _ ≠ _; omega)).trans ((hall _ (by omega)).trans h.res)) [.int .u64 (x.m.qb : Int), .int .u64 (x.m.qn : Int), .int .i64 x.m.at_, .int .i64 x.m.fr, .int .i64 x.m.tq, .int .u64 (n : Int), .slice q3 rest.length c3, .slice p r.length c, .bool d] rfl Try.underlying68 rfl sz_In
  have hk2 : Kept (fun b => b ≠ w.heap.size ∧ b ≠ w.heap.size + 1) X2 X := (hkV.less fun b hb => hb.1).trans (hkX.less fun b hb => hb.2)
  have hk3 : Kept (fun b => b < W.heap.size ∧ b ≠ w.heap.size ∧ b ≠ w.heap.size + 1) W X := (hk.less fun b hb => ⟨hb.1, by simp [Value.ownBlock]⟩).trans (hk2.less fun b hb => hb.2)
  have hsz3 : W.heap.size ≤ X.heap.size := by omega
  have hB : OwnK KK rBat 3 91 base X (.slice q3 rest.length c3) rest := OwnK.kept mBat ⟨cells, oc, rc⟩ (hk2.less fun b hb => by
    rcases hb with h1 | h1
    · have := (hKK b h1).2.1; exact ⟨by omega, by omega⟩
    · have := hob2 b h1; exact ⟨by omega, by omega⟩)
  have hR : OwnK KK rRow 1 96 base X (.slice p r.length c) r := OwnK.kept mRow h.rows (hk3.less fun b hb => by
    rcases hb with h1 | h1
    · have := (hKK b h1).2.1; exact ⟨by omega, by omega, by omega⟩
    · obtain ⟨_, o, _⟩ := h.rows
      have h2 := (o.lt b h1).2
      rcases (h.own b h1).2 with h3 | h3
      · have := h3.1; exact ⟨by omega, by omega, by omega⟩
      · exact ⟨by omega, by omega, by omega⟩)
  obtain ⟨_, _, e1, l1⟩ := hB.list mBat (P := P) (bytes := 40) (fun b hb => ⟨(hKK b hb).1, by have := (hKK b hb).2.1; omega, (hKK b hb).2.2⟩) (fun g hg => by have := hob2 g hg; exact hP g (by omega)) (by omega)
  obtain ⟨_, _, e2, l2⟩ := hR.list mRow (P := P) (bytes := 24) (fun b hb => ⟨(hKK b hb).1, by have := (hKK b hb).2.1; omega, (hKK b hb).2.2⟩) (fun g hg => by
    rcases (h.own g hg).2 with h3 | h3
    · exact hO g h3.2
    · exact hP g (by omega)) (by omega)
  rw [← e1] at l1
  rw [← e2] at l2
  refine ⟨q3, c3, X2, e, hc6, hf6, V, hV, fun j u hu => by rw [Nat.zero_add]; exact cell_of_row hgV2 (by simpa using hu), hth, X, hX, hld, l1, l2, ⟨hk3.os.trans h.bel.os, hk3.tape.trans h.bel.tape, hk3.output.trans h.bel.output, by have := h.bel.size; omega, fun b hb => (hk3.block b ⟨by omega, by omega, by omega⟩).trans (h.bel.block b hb)⟩, h.kp.trans (hk3.less fun g hg => ⟨by omega, by omega, by omega⟩)⟩
theorem PasI.step {x : In_} {p1 : Option Addr} {r1 : Nat} {ob : Option Nat} {KK P : Nat → Prop} {base : Nat} {w W : World} {hv : Value} {b : Bat} {bs : List Bat} {n : Nat} {d : Bool} {p : Option Addr} {c : Nat} {r : List (List Val)} (h : PasI x p1 r1 ob KK base w W hv (b :: bs) n d p c r) (hKK : ∀ b, KK b → base ≤ b ∧ b < w.heap.size ∧ P b) (hP : ∀ g, w.heap.size ≤ g → P g) (hO : ∀ g, ob = some g → P g) (hbase : base ≤ w.heap.size) {pm : Option Addr} {cm : Nat} (hm : ListIs rRow 1 24 KK W (.slice pm b.r.length cm) b.r) (hlen : r.length + b.r.length ≤ 1000000) (ty : TypeId) :
    ∃ p' c' X2, (Builtin.append_ #[30, 30] ty #[.slice p r.length c, .slice pm b.r.length cm]).run Try.prog W = .ok (.slice p' (r.length + b.r.length) c') X2 ∧ X2.cell? ⟨w.heap.size, 7, none⟩ = some (.slice p r.length c) ∧ X2.frozen? ⟨w.heap.size, 7, none⟩ = false ∧
      ∃ X3, X2.setCell ⟨w.heap.size, 7, none⟩ (.slice p' (r.length + b.r.length) c') = X3 ∧ X3.cell? ⟨w.heap.size, 8, none⟩ = some (.bool d) ∧ X3.frozen? ⟨w.heap.size, 8, none⟩ = false ∧ (∀ g k, KK g → X3.cell? ⟨g, k, none⟩ = W.cell? ⟨g, k, none⟩) ∧
      ∃ X4, X3.setCell ⟨w.heap.size, 8, none⟩ (.bool b.l) = X4 ∧ X4.cell? ⟨w.heap.size, 5, none⟩ = some (.int .u64 (n : Int)) ∧ X4.frozen? ⟨w.heap.size, 5, none⟩ = false ∧
      ∃ X5, X4.setCell ⟨w.heap.size, 5, none⟩ (.int .u64 ((n : Int) + 1)) = X5 ∧ ∀ hv', ListIs rBat 3 40 KK W hv' bs → PasI x p1 r1 ob KK base w X5 hv' bs (n + 1) b.l p' c' (r ++ b.r) := by
  obtain ⟨i0, hi0, hz0, hz1, hz2⟩ := inE_row
  have hsz := h.size
  obtain ⟨v', X2, e, hO, hk, hob⟩ := OwnK.app mRow (bytes := 24) Try.underlying30 hi0 hz0 hz1 hz2 rfl (by decide) h.rows (by omega) hm row_one (fun b hb => ⟨(hKK b hb).1, by have := (hKK b hb).2.1; omega, fun e => (h.own b e).1 hb⟩) (by omega) (by unfold maxLen; omega) ty
  obtain ⟨cells, oc, rc⟩ := id hO
  obtain ⟨p', c', rfl⟩ := owns_slice oc
  rw [List.length_append] at e hob
  have hs2 := hk.size
  have nob : ∀ g, (g = w.heap.size ∨ g = w.heap.size + 1) → (Value.slice p r.length c).ownBlock ≠ some g := fun g hg e => by
    rcases (h.own g e).2 with h3 | h3
    · have := h3.1; omega
    · omega
  obtain ⟨X3, hX3, hc7, hf7, hg3, hs3, hk3⟩ := box_put (cl := [.int .u64 (x.m.qb : Int), .int .u64 (x.m.qn : Int), .int .i64 x.m.at_, .int .i64 x.m.fr, .int .i64 x.m.tq, .int .u64 (n : Int), .slice p1 x.h.length r1, .slice p r.length c, .bool d]) ((hk.block _ ⟨by omega, nob _ (.inl rfl)⟩).trans h.box) (k := 7) (u := .slice p r.length c) rfl (.slice p' (r.length + b.r.length) c')
  have hg3' : X3.heap[w.heap.size]? = some (.cells ([.int .u64 (x.m.qb : Int), .int .u64 (x.m.qn : Int), .int .i64 x.m.at_, .int .i64 x.m.fr, .int .i64 x.m.tq, .int .u64 (n : Int), .slice p1 x.h.length r1, .slice p' (r.length + b.r.length) c', .bool d] : List Value).toArray 68 (0, 0)) := hg3
  obtain ⟨X4, hX4, hc8, hf8, hg4, hs4, hk4⟩ := box_put hg3' (k := 8) (u := .bool d) rfl (.bool b.l)
  have hg4' : X4.heap[w.heap.size]? = some (.cells ([.int .u64 (x.m.qb : Int), .int .u64 (x.m.qn : Int), .int .i64 x.m.at_, .int .i64 x.m.fr, .int .i64 x.m.tq, .int .u64 (n : Int), .slice p1 x.h.length r1, .slice p' (r.length + b.r.length) c', .bool b.l] : List Value).toArray 68 (0, 0)) := hg4
  obtain ⟨X5, hX5, hc5, hf5, hg5, hs5, hk5⟩ := box_put hg4' (k := 5) (u := .int .u64 (n : Int)) rfl (.int .u64 ((n : Int) + 1))
  have hg5' : X5.heap[w.heap.size]? = some (.cells #[.int .u64 (x.m.qb : Int), .int .u64 (x.m.qn : Int), .int .i64 x.m.at_, .int .i64 x.m.fr, .int .i64 x.m.tq, .int .u64 ((n : Int) + 1), .slice p1 x.h.length r1, .slice p' (r.length + b.r.length) c', .bool b.l] 68 (0, 0)) := hg5
  have kA : Kept (fun b => b ≠ w.heap.size) X2 X5 := (hk3.trans hk4).trans hk5
  refine ⟨p', c', X2, e, hc7, hf7, X3, hX3, hc8, hf8, fun g k hg => ?_, X4, hX4, hc5, hf5, X5, hX5, fun hv' hl => ?_⟩
  · have h2 := (hKK g hg).2.1
    exact World.cell?_of_block ((hk3.block g (by show _ ≠ _; omega)).trans (hk.block g ⟨by omega, fun e => (h.own g e).1 hg⟩))
  · have kK : Kept KK W X5 := (hk.less fun g hg => ⟨by have := (hKK g hg).2.1; omega, fun e => (h.own g e).1 hg⟩).trans (kA.less fun g hg => by have := (hKK g hg).2.1; show _ ≠ _; omega)
    have own' : ∀ g, (Value.slice p' (r.length + b.r.length) c').ownBlock = some g → ¬ KK g ∧ ((g < w.heap.size ∧ ob = some g) ∨ w.heap.size + 2 ≤ g) := fun g hg => by
      rcases hob with e | e
      · rw [e] at hg; exact h.own g hg
      · rw [e] at hg; cases hg; exact ⟨fun h2 => by have := (hKK _ h2).2.1; omega, .inr hsz⟩
    refine ⟨hl.mono mBat (fun _ h => h) kK, ?_, ?_, ?_, h.kp.trans ((hk.less fun g hg => ⟨by omega, fun e => ?_⟩).trans (kA.less fun g hg => by have := hg.1; show g ≠ _; omega)), by omega, ?_, ?_⟩
    · exact OwnK.kept mRow hO (kA.less fun g hg => by
        show g ≠ _
        rcases hg with h2 | h2
        · have := (hKK g h2).2.1; omega
        · rw [List.length_append] at h2
          rcases (own' g h2).2 with h3 | h3
          · have := h3.1; omega
          · omega)
    · rw [List.length_append]; exact own'
    · have kb : Kept (fun g => g < base) W X5 := (hk.less fun g hg => ⟨by omega, fun e => by obtain ⟨_, o, _⟩ := h.rows; have := (o.lt g e).1; omega⟩).trans (kA.less fun g hg => by show g ≠ _; omega)
      exact ⟨kb.os.trans h.bel.os, kb.tape.trans h.bel.tape, kb.output.trans h.bel.output, by have := h.bel.size; omega, fun j hj => (kb.block j hj).trans (h.bel.block j hj)⟩
    · rcases (h.own g e).2 with h3 | h3
      · exact hg.2 h3.2
      · have := hg.1; omega
    · rw [List.length_append]; exact hg5'
    · exact (kA.block _ (by show _ ≠ _; omega)).trans ((hk.block _ ⟨by omega, nob _ (.inr rfl)⟩).trans h.res)
set_option maxRecDepth 100000 in
set_option maxHeartbeats 4000000 in
theorem pass_any (x : In_) (p1 p2 : Option Addr) (r1 r2 : Nat) (P : Nat → Prop) (base : Nat) (w : World) (hI : OwnI P base w (.slice p1 x.h.length r1) (.slice p2 x.r.length r2) x.h x.r) (hbase : base ≤ w.heap.size) (hn : x.n + x.h.length ≤ 1000000) (hr : x.r.length + 8 * x.h.length ≤ 1000000) (h8 : ∀ b ∈ x.h, b.r.length ≤ 8) (hP : ∀ g, w.heap.size ≤ g → P g) :
    Calls Try.prog 39 #[.agg #[.int .u64 (x.m.qb : Int), .int .u64 (x.m.qn : Int), .int .i64 x.m.at_, .int .i64 x.m.fr, .int .i64 x.m.tq, .int .u64 (x.n : Int), .slice p1 x.h.length r1, .slice p2 x.r.length r2, .bool x.d]] w fun e w' => InR P base w (passI x) e w' ∧ Kept (fun g => g < w.heap.size ∧ (Value.slice p2 x.r.length r2).ownBlock ≠ some g) w w' := by
  obtain ⟨K, c1, c2, hK, hA, hQ, o1, rl1, o2, rl2⟩ := hI
  obtain ⟨W0, hW0, hb0, hs0, g0, g1⟩ := two_boxes2 w #[.int .u64 (x.m.qb : Int), .int .u64 (x.m.qn : Int), .int .i64 x.m.at_, .int .i64 x.m.fr, .int .i64 x.m.tq, .int .u64 (x.n : Int), .slice p1 x.h.length r1, .slice p2 x.r.length r2, .bool x.d] #[.int .u64 0, .int .u64 0, .int .i64 0, .int .i64 0, .int .i64 0, .int .u64 0, .slice none 0 0, .slice none 0 0, .bool false] 68 68
  obtain ⟨KK, hKK⟩ : ∃ KK : Nat → Prop, KK = fun b => K b ∨ (Value.slice p1 x.h.length r1).ownBlock = some b := ⟨_, rfl⟩
  have HKK : Hid (∀ b, KK b → base ≤ b ∧ b < w.heap.size ∧ P b) := fun b hb => by
    rw [hKK] at hb
    rcases hb with h | h
    · exact ⟨(hK b h).1, (hK b h).2.1, (hK b h).2.2.2.2⟩
    · exact ⟨(o1.lt b h).1, (o1.lt b h).2, hQ b (.inl h)⟩
  have hlist : ListIs rBat 3 40 KK w (.slice p1 x.h.length r1) x.h := by
    have ow := o1
    obtain ⟨hl, ⟨e, hn0⟩ | ⟨g, cap, cur, e, hbg, hg, hnc, hcm, hcs, htake⟩⟩ := o1
    · obtain ⟨rfl, _, rfl⟩ : p1 = none ∧ x.h.length = 0 ∧ r1 = 0 := by simpa using e
      exact ⟨none, 0, rfl, ⟨by omega, by omega⟩, fun h => by omega⟩
    · cases e
      refine ⟨_, _, rfl, ⟨by omega, hnc⟩, fun _ => ⟨g, 0, rfl, by rw [hKK]; exact .inr rfl, fun j hj => ⟨_, ?_, fun i u hu => ?_, mBat _ _ _ _ _ _ (fun b h => by rw [hKK]; exact .inl h) (Kept.refl _ _) (rl1 j hj)⟩⟩⟩
      · rw [List.length_take, List.length_drop, hl]; omega
      · have hi : i < 3 := by
          have := (List.getElem?_eq_some_iff.1 hu).1
          rw [List.length_take] at this; omega
        rw [List.getElem?_take_of_lt hi, List.getElem?_drop, ← htake, List.getElem?_take_of_lt (by omega)] at hu
        rw [Nat.zero_add]
        exact cell_of_row hg (by simpa using hu)
  have HI0 : Hid (PasI x p1 r1 (Value.slice p2 x.r.length r2).ownBlock KK base w W0 (.slice p1 x.h.length r1) x.h x.n x.d p2 r2 x.r) := by
    refine ⟨hlist.later mBat (fun b h => (HKK.out b h).2.1) hb0, ⟨c2, owns_kept o2 (fun g hg => hb0.block g (o2.lt g hg).2), fun j hj => mRow _ _ _ _ _ _ (fun b h => by rw [hKK]; exact .inl h) (kept_of (fun b h => (hK b h).2.1) hb0) (rl2 j hj)⟩, fun g hg => ⟨fun h => ?_, .inl ⟨(o2.lt g hg).2, hg⟩⟩, hb0.mono hbase, kept_of (fun g hg => hg.1) hb0, by omega, g0, g1⟩
    rw [hKK] at h
    rcases h with h | h
    · exact (hK g h).2.2.2.1 hg
    · exact hA g h hg
  have hr1 : x.h.length ≤ r1 := by obtain ⟨_, _, e, h9, _⟩ := hlist; cases e; exact h9.2
  have H8 : Hid (∀ b ∈ x.h, b.r.length ≤ 8) := h8
  have HBA : Hid (base ≤ w.heap.size) := hbase
  have HPP : Hid (∀ g, w.heap.size ≤ g → P g) := hP
  have HOO : Hid (∀ g, (Value.slice p2 x.r.length r2).ownBlock = some g → P g) := fun g hg => hQ g (.inr hg)
  have a6 := cell_of_row (k := 6) (v := .slice p1 x.h.length r1) g0 rfl
  clear hlist hK hA hQ hP o1 o2 rl1 rl2 g0 g1 hb0 hs0 h8 hKK hbase
  go_enter Try.func39, Try.ntmps39
  go_wp2_with fail
  go_loopg [3] x.h.length (fun gf s3 wx => ∃ (q : Option Addr) (cq : Nat) (rest : List Bat) (n : Nat) (d : Bool) (p : Option Addr) (c : Nat) (r : List (List Val)), s3 = .slice q rest.length cq ∧ rest.length ≤ gf ∧ rest.length ≤ cq ∧ n + rest.length ≤ 1000000 ∧ r.length + 8 * rest.length ≤ 1000000 ∧ Hid (PasI x p1 r1 (Value.slice p2 x.r.length r2).ownBlock KK base w wx (.slice q rest.length cq) rest n d p c r) ∧ Hid (∀ b ∈ rest, b.r.length ≤ 8) ∧ Hid (passP x.n x.d x.r x.h = passP n d r rest))
  case atStart => exact ⟨_, _, x.h, x.n, x.d, _, _, x.r, rfl, Nat.le_refl _, hr1, hn, hr, HI0, H8, rfl⟩
  case round =>
    clear HI0 H8 hn hr a6 hr1 hW0
    obtain ⟨q, cq, rest, n, d, p, c, r, rfl, hgf, hcq, hnn, hrr, HI, H8, HP⟩ := hrel
    cases rest with
    | nil =>
      clear H8
      have HPE : Hid (passP x.n x.d x.r x.h = (n, d, r, [])) := HP.out
      have b5 := cell_of_row (k := 5) (v := .int .u64 (n : Int)) HI.out.box rfl
      clear HP
      simp only [List.length_nil] at hgf hcq hnn hrr
      go_wp2_with fail
      go_quiet (fail)
      obtain ⟨W1, hW1⟩ : ∃ W1, wr.drewN nq = W1 := ⟨_, rfl⟩
      rw [hW1]
      have HJ := HI.out.later (W' := W1) (by rw [← hW1]; rfl) (by rw [← hW1]; rfl) (by rw [← hW1]; rfl) (by rw [← hW1]; rfl)
      obtain ⟨q3, c3, X2, e, hc6, hf6, V, hV, hra, hth, X, hX, hld, l1, l2, hbel, hkep⟩ := PasI.fin HJ HKK.out HPP.out HOO.out HBA.out (by simp only [List.length_cons, List.length_nil] at *; omega) (by omega) 66
      simp only [List.length_cons, List.length_nil] at e hV hra hX hld l1
      have HRA : Hid (V.rangeAt w.heap.size 0 [.int .u64 (x.m.qb : Int), .int .u64 (x.m.qn : Int), .int .i64 x.m.at_, .int .i64 x.m.fr, .int .i64 x.m.tq, .int .u64 (n : Int), .slice q3 (0) c3, .slice p r.length c, .bool d]) := hra
      have HTH : Hid (V.there (w.heap.size + 1) 0 9) := hth
      have HWX : Hid (V.setCells (w.heap.size + 1) 0 (#[.int .u64 (x.m.qb : Int), .int .u64 (x.m.qn : Int), .int .i64 x.m.at_, .int .i64 x.m.fr, .int .i64 x.m.tq, .int .u64 (n : Int), .slice q3 (0) c3, .slice p r.length c, .bool d] : Array Value).toList = X) := hX
      have HLD : Hid ((loadVar 68 ⟨w.heap.size + 1, 0, none⟩).run Try.prog X = .ok (.agg #[.int .u64 (x.m.qb : Int), .int .u64 (x.m.qn : Int), .int .i64 x.m.at_, .int .i64 x.m.fr, .int .i64 x.m.tq, .int .u64 (n : Int), .slice q3 (0) c3, .slice p r.length c, .bool d]) X) := hld
      have HON : Hid ((#[.int .u64 (x.m.qb : Int), .int .u64 (x.m.qn : Int), .int .i64 x.m.at_, .int .i64 x.m.fr, .int .i64 x.m.tq, .int .u64 (n : Int), .slice q3 (0) c3, .slice p r.length c, .bool d] : Array Value).all (·.oneCell') = true) := by show _ = _; simp [Value.oneCell']
      have HFI : Hid (ListIs rBat 3 40 (fun b => From base X b ∧ P b) X (.slice q3 (0) c3) ([]) ∧ ListIs rRow 1 24 (fun b => From base X b ∧ P b) X (.slice p r.length c) r ∧ Below base w X) := ⟨l1, l2, hbel⟩
      have HKE : Hid (Kept (fun g => g < w.heap.size ∧ (Value.slice p2 x.r.length r2).ownBlock ≠ some g) w X) := hkep
      clear hra hth hX hld l1 l2 hbel hkep HJ hW1 HI
      go_wp2_with (first | (at_builtin; refine Lib.wpList_append_run _ rfl _ _ _ _ rfl (.slice none 0 0) (.slice q (0) cq) rfl rfl _ _ e ?_) | (refine wpList_load_mid rfl 68 _ rfl w.heap.size 0 rfl _ _ HRA.out Try.underlying68 rfl sz_In ?_) | (refine wpList_store_mid rfl 68 _ _ rfl (w.heap.size + 1) 0 #[.int .u64 (x.m.qb : Int), .int .u64 (x.m.qn : Int), .int .i64 x.m.at_, .int .i64 x.m.fr, .int .i64 x.m.tq, .int .u64 (n : Int), .slice q3 (0) c3, .slice p r.length c, .bool d] rfl rfl HTH.out sz_In HON.out ?_; rw [HWX.out]))
      refine bodyPost_ret (v := .agg #[.int .u64 (x.m.qb : Int), .int .u64 (x.m.qn : Int), .int .i64 x.m.at_, .int .i64 x.m.fr, .int .i64 x.m.tq, .int .u64 (n : Int), .slice q3 (0) c3, .slice p r.length c, .bool d]) (by simp only [results, Try.results39]; simp [asAddr, Act.put, HLD.out]) rfl ?_
      have hy : passI x = ⟨x.m, n, [], r, d⟩ := by unfold passI; rw [HPE.out]
      refine ⟨?_, HKE.out⟩
      show InR P base w (passI x) _ X
      rw [hy]
      exact ⟨q3, c3, p, c, rfl, HFI.out⟩
    | cons b bs =>
      obtain ⟨g', rfl⟩ : ∃ g', gk = g' + 1 := ⟨gk - 1, by simp at hgf; omega⟩
      obtain ⟨bb, o, pm, cm, rfl, hKb, e0, e1, e2, hs64, hrl⟩ := bat_at HI.out.held 0 (by simp)
      simp only [Nat.zero_mul, Nat.add_zero, List.getElem_cons_zero] at e0 e1 e2 hs64 hrl
      have htl := bat_tail HI.out.held
      have b5 := cell_of_row (k := 5) (v := .int .u64 (n : Int)) HI.out.box rfl
      have b7 := cell_of_row (k := 7) (v := .slice p r.length c) HI.out.box rfl
      have hb8 : b.r.length ≤ 8 := H8.out b (by simp)
      have H8' : Hid (∀ y ∈ bs, y.r.length ≤ 8) := fun y hy => H8.out y (by simp [hy])
      simp only [List.length_cons] at hgf hcq hnn hrr
      have z0 : (0 : Int) < (bs.length : Int) + 1 := by omega
      have z9 : bs.length ≤ 1000000 := by omega
      clear H8
      by_cases heq : b.s = n
      · have y0 : ((b.s : Int) == (n : Int)) = true := by simp; omega
        have HPE : Hid (passP x.n x.d x.r x.h = passP (n + 1) b.l (r ++ b.r) bs) := by show _ = _; rw [HP.out, passP, if_pos heq]
        clear HP
        go_wp2_with fail
        go_quiet (fail)
        obtain ⟨W1, hW1⟩ : ∃ W1, wr.drewN nq = W1 := ⟨_, rfl⟩
        rw [hW1]
        have HJ := HI.out.later (W' := W1.drew) (by rw [← hW1]; rfl) (by rw [← hW1]; rfl) (by rw [← hW1]; rfl) (by rw [← hW1]; rfl)
        have hrl' : ListIs rRow 1 24 KK W1.drew (.slice pm b.r.length cm) b.r := hrl.mono mRow (fun _ h => h) ⟨by rw [← hW1]; rfl, by rw [← hW1]; rfl, by rw [← hW1]; rfl, by rw [← hW1]; exact Nat.le_refl _, fun _ _ => by rw [← hW1]; rfl⟩
        have f1 : ∀ k, W1.drew.cell? ⟨bb, k, none⟩ = wr.cell? ⟨bb, k, none⟩ := fun k => by rw [← hW1]; rfl
        have f2 : W1.cell? ⟨bb, o + 2, none⟩ = some (.slice pm b.r.length cm) := by rw [← e2, ← hW1]; rfl
        have f7 : W1.cell? ⟨w.heap.size, 7, none⟩ = some (.slice p r.length c) := by rw [← b7, ← hW1]; rfl
        have htl' : ∀ hv', ListIs rBat 3 40 KK wr hv' bs → ListIs rBat 3 40 KK W1.drew hv' bs := fun hv' h => h.mono mBat (fun _ h => h) ⟨by rw [← hW1]; rfl, by rw [← hW1]; rfl, by rw [← hW1]; rfl, by rw [← hW1]; exact Nat.le_refl _, fun _ _ => by rw [← hW1]; rfl⟩
        obtain ⟨p', c', X2, hrun, hc7, hf7, X3, hX3, hc8, hf8, hKc, X4, hX4, hc5, hf5, X5, hX5, hfin⟩ := HJ.step HKK.out HPP.out HOO.out HBA.out hrl' (by omega) 30
        have f3 : X3.cell? ⟨bb, o + 1, none⟩ = some (.bool b.l) := by rw [hKc bb _ hKb, f1]; exact e1
        have hn1 : ((n : Int) + 1) % 18446744073709551616 = (n : Int) + 1 := by omega
        clear hrl hrl' HJ HI f1 hKc hW1 e0 e1 e2 b5 b7 hKb
        by_cases hq1 : cq = 1
        · obtain ⟨hl0, hl1⟩ := htl.2 hq1
          have hl2 := htl' _ hl1
          subst hq1
          have hbn : bs = [] := List.eq_nil_of_length_eq_zero hl0
          subst hbn
          clear htl' hl0 hl1
          have HN := hid (hfin _ (hl2))
          clear hfin htl hl2
          go_wp2_with fail
          go_region_law (refine step_appR (W1.drew) 30 rfl _ _ rfl (.slice p r.length c) (.slice pm b.r.length cm) (.slice p' (r.length + b.r.length) c') X2 (by simp [Act.eval, Act.put]) (by simp [Act.eval, Act.put]) hrun ?_)
          all_goals go_wp2_with fail
          all_goals go_roundg g'
          all_goals try (case measure => omega)
          all_goals (case rel => exact ⟨some ⟨bb, o, none⟩, 0, [], n + 1, b.l, p', c', r ++ b.r, rfl, by simp, by simp, by simp at *; omega, by simp at *; omega, HN, H8', HPE⟩)
        · have hl2 := htl' _ htl.1
          have zq : 1 ≤ cq := by omega
          clear htl'
          have HN := hid (hfin _ (hl2))
          clear hfin htl hl2
          go_wp2_with fail
          go_region_law (refine step_appR (W1.drew) 30 rfl _ _ rfl (.slice p r.length c) (.slice pm b.r.length cm) (.slice p' (r.length + b.r.length) c') X2 (by simp [Act.eval, Act.put]) (by simp [Act.eval, Act.put]) hrun ?_)
          all_goals go_wp2_with fail
          all_goals go_roundg g'
          all_goals try (case measure => omega)
          all_goals (case rel => exact ⟨some ⟨bb, o + 3, none⟩, (cq - 1), bs, n + 1, b.l, p', c', r ++ b.r, by first | rfl | (simp; omega), by omega, by omega, by omega, by rw [List.length_append]; omega, HN, H8', HPE⟩)
      · have y0 : ((b.s : Int) == (n : Int)) = false := beq_eq_false_iff_ne.2 (by omega)
        have HPE : Hid (passP x.n x.d x.r x.h = (n, d, r, b :: bs)) := by show _ = _; rw [HP.out, passP, if_neg heq]
        clear HP heq htl hrl hKb hs64 H8' b7 e1 e2 hb8
        go_wp2_with fail
        go_quiet (fail)
        clear e0 b5
        obtain ⟨W1, hW1⟩ : ∃ W1, wr.drewN nq = W1 := ⟨_, rfl⟩
        rw [hW1]
        have HJ := HI.out.later (W' := W1) (by rw [← hW1]; rfl) (by rw [← hW1]; rfl) (by rw [← hW1]; rfl) (by rw [← hW1]; rfl)
        obtain ⟨q3, c3, X2, e, hc6, hf6, V, hV, hra, hth, X, hX, hld, l1, l2, hbel, hkep⟩ := PasI.fin HJ HKK.out HPP.out HOO.out HBA.out (by simp only [List.length_cons, List.length_nil] at *; omega) (by omega) 66
        simp only [List.length_cons, List.length_nil] at e hV hra hX hld l1
        have HRA : Hid (V.rangeAt w.heap.size 0 [.int .u64 (x.m.qb : Int), .int .u64 (x.m.qn : Int), .int .i64 x.m.at_, .int .i64 x.m.fr, .int .i64 x.m.tq, .int .u64 (n : Int), .slice q3 (bs.length + 1) c3, .slice p r.length c, .bool d]) := hra
        have HTH : Hid (V.there (w.heap.size + 1) 0 9) := hth
        have HWX : Hid (V.setCells (w.heap.size + 1) 0 (#[.int .u64 (x.m.qb : Int), .int .u64 (x.m.qn : Int), .int .i64 x.m.at_, .int .i64 x.m.fr, .int .i64 x.m.tq, .int .u64 (n : Int), .slice q3 (bs.length + 1) c3, .slice p r.length c, .bool d] : Array Value).toList = X) := hX
        have HLD : Hid ((loadVar 68 ⟨w.heap.size + 1, 0, none⟩).run Try.prog X = .ok (.agg #[.int .u64 (x.m.qb : Int), .int .u64 (x.m.qn : Int), .int .i64 x.m.at_, .int .i64 x.m.fr, .int .i64 x.m.tq, .int .u64 (n : Int), .slice q3 (bs.length + 1) c3, .slice p r.length c, .bool d]) X) := hld
        have HON : Hid ((#[.int .u64 (x.m.qb : Int), .int .u64 (x.m.qn : Int), .int .i64 x.m.at_, .int .i64 x.m.fr, .int .i64 x.m.tq, .int .u64 (n : Int), .slice q3 (bs.length + 1) c3, .slice p r.length c, .bool d] : Array Value).all (·.oneCell') = true) := by show _ = _; simp [Value.oneCell']
        have HFI : Hid (ListIs rBat 3 40 (fun b => From base X b ∧ P b) X (.slice q3 (bs.length + 1) c3) (b :: bs) ∧ ListIs rRow 1 24 (fun b => From base X b ∧ P b) X (.slice p r.length c) r ∧ Below base w X) := ⟨l1, l2, hbel⟩
        have HKE : Hid (Kept (fun g => g < w.heap.size ∧ (Value.slice p2 x.r.length r2).ownBlock ≠ some g) w X) := hkep
        clear hra hth hX hld l1 l2 hbel hkep HJ hW1 HI
        go_wp2_with (first | (at_builtin; refine Lib.wpList_append_run _ rfl _ _ _ _ rfl (.slice none 0 0) (.slice (some ⟨bb, o, none⟩) (bs.length + 1) cq) rfl rfl _ _ e ?_) | (refine wpList_load_mid rfl 68 _ rfl w.heap.size 0 rfl _ _ HRA.out Try.underlying68 rfl sz_In ?_) | (refine wpList_store_mid rfl 68 _ _ rfl (w.heap.size + 1) 0 #[.int .u64 (x.m.qb : Int), .int .u64 (x.m.qn : Int), .int .i64 x.m.at_, .int .i64 x.m.fr, .int .i64 x.m.tq, .int .u64 (n : Int), .slice q3 (bs.length + 1) c3, .slice p r.length c, .bool d] rfl rfl HTH.out sz_In HON.out ?_; rw [HWX.out]))
        refine bodyPost_ret (v := .agg #[.int .u64 (x.m.qb : Int), .int .u64 (x.m.qn : Int), .int .i64 x.m.at_, .int .i64 x.m.fr, .int .i64 x.m.tq, .int .u64 (n : Int), .slice q3 (bs.length + 1) c3, .slice p r.length c, .bool d]) (by simp only [results, Try.results39]; simp [asAddr, Act.put, HLD.out]) rfl ?_
        have hy : passI x = ⟨x.m, n, b :: bs, r, d⟩ := by unfold passI; rw [HPE.out]
        refine ⟨?_, HKE.out⟩
        show InR P base w (passI x) _ X
        rw [hy]
        exact ⟨q3, c3, p, c, rfl, HFI.out⟩
end Go.Proofs.Ytcmiphgeakdonaa
