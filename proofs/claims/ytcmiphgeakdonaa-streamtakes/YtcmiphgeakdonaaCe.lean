/- The reference: rows that are cut. -/
import Derived.Test.YtcmiphgeakdonaaCd
import Derived.Test.YtcmiphgeakdonaaBa
namespace Go.Proofs.Ytcmiphgeakdonaa
open Go.Shelf Go.RowKit Go.Lib Go.Sort
set_option linter.unusedVariables false
set_option linter.unusedSimpArgs false
attribute [local go_sem ↓] Go.wp_at_zero Go.wp_at_succ
/-- One part more, of memory that is told. -/
theorem OwnK.push {α : Type} {rel : Rel α} (hm : Mono rel) {size bytes : Nat} {ts te : TypeId} {i0 : TypeInfo} {z : Value} (hu : Try.prog.underlying ts = some (.slice te)) (hi : Try.prog.info? te = some i0) (hz : i0.zero = some z) (hs : i0.size = size) (hby : i0.bytes = bytes) (hzs : z.cells.size = size) (hs0 : 0 < size)
    {base : Nat} {X : World} {u : Value} {xs : List α} {K : Nat → Prop} (h : OwnK K rel size te base X u xs) (hbase : base ≤ X.heap.size) {cs : List Value} {x : α} (hcs : cs.length = size) (hone : ∀ c ∈ cs, c.oneCell' = true) (hK : ∀ b, K b → b < X.heap.size ∧ u.ownBlock ≠ some b) (hr : rel K X cs x) (hbytes : (xs.length + 1) * bytes ≤ 140737488355328) (hmax : xs.length + 1 ≤ maxLen) :
    ∃ v' X2, (Builtin.append_ #[ts, ts] ts #[u, .slice (some ⟨X.heap.size, 0, none⟩) 1 1]).run Try.prog (X.alloc (.cells cs.toArray te)) = .ok v' X2 ∧ OwnK K rel size te base X2 v' (xs ++ [x]) ∧ Kept (fun b => b < X.heap.size ∧ u.ownBlock ≠ some b) X X2 := by
  obtain ⟨cells, ho, hrr⟩ := h
  obtain ⟨X1, hX1⟩ : ∃ X1, X.alloc (.cells cs.toArray te) = X1 := ⟨_, rfl⟩
  have hb1 : Below X.heap.size X X1 := by rw [← hX1]; exact (Below.refl _ _).alloc (Nat.le_refl _) _
  have hs1 : X1.heap.size = X.heap.size + 1 := by rw [← hX1]; simp
  have hg1 : X1.heap[X.heap.size]? = some (.cells cs.toArray te (0, 0)) := by rw [← hX1]; exact heap_alloc_new X _
  rw [hX1]
  have ho1 : X1.ownsRow base te size u xs.length cells := by
    obtain ⟨hl, ⟨rfl, hn⟩ | ⟨g, cap, cur, rfl, h1, hg, r⟩⟩ := ho
    · exact ⟨hl, .inl ⟨rfl, hn⟩⟩
    · exact ⟨hl, .inr ⟨g, cap, cur, rfl, h1, by rw [hb1.block _ (Array.getElem?_eq_some_iff.1 hg).1]; exact hg, r⟩⟩
  have hnew : ∀ j v, cs[j]? = some v → X1.cell? ((⟨X.heap.size, 0, none⟩ : Addr).add j) = some v := fun j v hv => by
    rw [addr_add, Nat.zero_add]
    exact cell_of_row hg1 (by simpa using hv)
  obtain ⟨v', X2, e, ho2, h5, _, h6⟩ := run_append_own_at (P := Try.prog) X1 base ts ts te i0 z size bytes hu hi hz hs hby hzs hs0 u xs.length cells ho1 ⟨X.heap.size, 0, none⟩ 1 1 cs (by rw [hcs, Nat.one_mul]) hnew hone hmax hbytes (by omega)
  have hsz := h5.size
  have hKeep : ∀ (Q : Nat → Prop), (∀ b, Q b → b < X.heap.size ∧ u.ownBlock ≠ some b) → Kept Q X X2 := fun Q hQ => by
    refine ⟨h5.os.trans hb1.os, h5.tape.trans hb1.tape, h5.output.trans hb1.output, by omega, fun b hb => ?_⟩
    rw [h5.block b (by have := (hQ b hb).1; omega) (fun e => (hQ b hb).2 e.symm)]
    exact hb1.block b (hQ b hb).1
  refine ⟨v', X2, e, ⟨cells ++ cs, by rw [List.length_append]; exact ho2, fun j hj => ?_⟩, hKeep _ fun b h => h⟩
  by_cases hjn : j < xs.length
  · rw [part_of ho.1 hcs hjn, List.getElem_append_left hjn]
    exact hm _ _ _ _ _ _ (fun _ h => h) (hKeep K hK) (hrr j hjn)
  · have e2 : j = xs.length := by simp at hj; omega
    subst e2
    have hl := ho.1
    rw [List.drop_append_of_le_length (by omega), List.drop_of_length_le (by omega), List.nil_append, List.take_of_length_le (by omega), List.getElem_append_right (Nat.le_refl _)]
    simp only [Nat.sub_self, List.getElem_cons_zero]
    exact hm _ _ _ _ _ _ (fun _ h => h) (hKeep K hK) hr
/-- How far the rows are cut. -/
structure CutJ (s : Strm) (w W0 wR W : World) (p : Option Addr) (c : Nat) (bs : List (List (List Val))) : Prop where
  box : W.heap[w.heap.size + 1 + 1]? = some (.cells #[.int .u64 (s.qb : Int), .int .u64 (s.qn : Int), .int .i64 s.at_, .int .i64 s.fr, .int .i64 s.tq, .slice p bs.length c, .int .u64 0] 29 (0, 0))
  res : W.heap[w.heap.size + 1]? = some (.cells #[.int .u64 0, .int .u64 0, .int .i64 0, .int .i64 0, .int .i64 0, .slice none 0 0, .int .u64 0] 29 (0, 0))
  own : OwnK (From W0.heap.size wR) rBch 1 30 wR.heap.size W (.slice p bs.length c) bs
  bel : Below w.heap.size w W
  kr : Kept (From W0.heap.size wR) wR W
  size : wR.heap.size ≤ W.heap.size
theorem CutJ.later {s : Strm} {w W0 wR W W' : World} {p : Option Addr} {c : Nat} {bs : List (List (List Val))} (h : CutJ s w W0 wR W p c bs) (he : W'.heap = W.heap) (ho : W'.os = W.os) (ht : W'.tape = W.tape) (hp : W'.output = W.output) : CutJ s w W0 wR W' p c bs := by
  have hk : ∀ Q : Nat → Prop, Kept Q W W' := fun Q => ⟨ho, ht, hp, by rw [he]; exact Nat.le_refl _, fun b _ => by rw [he]⟩
  exact ⟨by rw [he]; exact h.box, by rw [he]; exact h.res, h.own.kept mBch (hk _), ⟨ho.trans h.bel.os, ht.trans h.bel.tape, hp.trans h.bel.output, by rw [he]; exact h.bel.size, fun b hb => by rw [he]; exact h.bel.block b hb⟩, ⟨ho.trans h.kr.os, ht.trans h.kr.tape, hp.trans h.kr.output, by rw [he]; exact h.kr.size, fun b hb => by rw [he]; exact h.kr.block b hb⟩, by rw [he]; exact h.size⟩
theorem CutJ.step {s : Strm} {w W0 wR W : World} {p : Option Addr} {c : Nat} {bs : List (List (List Val))} (h : CutJ s w W0 wR W p c bs) (hs0 : W0.heap.size = w.heap.size + 3) (hsR : W0.heap.size ≤ wR.heap.size) {pp : Option Addr} {cc n : Nat} {y : List (List Val)} (hn : y.length = n) (hy : ListIs rRow 1 24 (From W0.heap.size wR) wR (.slice pp n cc) y) (hb : bs.length ≤ 1000) :
    ∃ p' c' X2, (Builtin.append_ #[27, 27] 27 #[.slice p bs.length c, .slice (some ⟨W.heap.size, 0, none⟩) 1 1]).run Try.prog (W.alloc (.cells #[.slice pp n cc] 30)) = .ok (.slice p' (bs.length + 1) c') X2 ∧ W.cell? ⟨w.heap.size + 1 + 1, 5, none⟩ = some (.slice p bs.length c) ∧ (W.alloc (.cells #[.slice pp n cc] 30)).cell? ⟨w.heap.size + 1 + 1, 5, none⟩ = some (.slice p bs.length c) ∧ X2.cell? ⟨w.heap.size + 1 + 1, 5, none⟩ = some (.slice p bs.length c) ∧ X2.frozen? ⟨w.heap.size + 1 + 1, 5, none⟩ = false ∧
      ∃ X3, X2.setCell ⟨w.heap.size + 1 + 1, 5, none⟩ (.slice p' (bs.length + 1) c') = X3 ∧ CutJ s w W0 wR X3 p' c' (bs ++ [y]) := by
  obtain ⟨j0, hj0, hj1, hj2, hj3⟩ := inE_bch
  have hsz := h.size
  have hob : ∀ g, (Value.slice p bs.length c).ownBlock = some g → wR.heap.size ≤ g := fun g hg => by
    obtain ⟨cells, ho, _⟩ := h.own
    exact (ho.lt _ hg).1
  obtain ⟨v', X2, e2, hJ2, hk2⟩ := OwnK.push mBch Try.underlying27 hj0 hj1 hj2 hj3 rfl (by omega) h.own hsz (cs := [.slice pp n cc]) (x := y) rfl (fun c hc => by simp at hc; subst hc; rfl)
    (fun b hb => ⟨by have := hb.2; omega, fun e => by have := hob _ e; have := hb.2; omega⟩) ⟨_, rfl, hy.mono mRow (fun _ h => h) h.kr⟩ (by omega) (by unfold maxLen; omega)
  obtain ⟨p', c', rfl⟩ : ∃ p' c', v' = .slice p' (bs.length + 1) c' := by
    obtain ⟨cells, ho, _⟩ := hJ2
    obtain ⟨p', c', e⟩ := owns_slice ho
    exact ⟨p', c', by rw [e]; simp⟩
  have hsl : (bs ++ [y]).length = bs.length + 1 := by simp
  have h2lt : w.heap.size + 1 + 1 < W.heap.size := (Array.getElem?_eq_some_iff.1 h.box).1
  have hg2 : X2.heap[w.heap.size + 1 + 1]? = some (.cells #[.int .u64 (s.qb : Int), .int .u64 (s.qn : Int), .int .i64 s.at_, .int .i64 s.fr, .int .i64 s.tq, .slice p bs.length c, .int .u64 0] 29 (0, 0)) := (hk2.block _ ⟨h2lt, fun e => by have := hob _ e; omega⟩).trans h.box
  have hg1 : X2.heap[w.heap.size + 1]? = some (.cells #[.int .u64 0, .int .u64 0, .int .i64 0, .int .i64 0, .int .i64 0, .slice none 0 0, .int .u64 0] 29 (0, 0)) := (hk2.block _ ⟨by omega, fun e => by have := hob _ e; omega⟩).trans h.res
  obtain ⟨X3, hX3, hc7, hf7, hg3, hs3, hk3⟩ := box_put (cl := [.int .u64 (s.qb : Int), .int .u64 (s.qn : Int), .int .i64 s.at_, .int .i64 s.fr, .int .i64 s.tq, .slice p bs.length c, .int .u64 0]) hg2 (k := 5) (u := .slice p bs.length c) rfl (.slice p' (bs.length + 1) c')
  have hs2 := hk2.size
  refine ⟨p', c', X2, e2, cell_of_row (k := 5) h.box rfl, (World.cell?_of_block (hao W _ (w.heap.size + 1 + 1) h2lt)).trans (cell_of_row (k := 5) h.box rfl), hc7, hf7, X3, hX3, ?_, (hk3.block _ (by show _ ≠ _; omega)).trans hg1, ?_, ?_, ?_, by omega⟩
  · rw [hsl]; exact hg3
  · rw [hsl]
    refine hJ2.kept mBch (hk3.less fun b hb' => ?_)
    show b ≠ _
    rcases hb' with hb' | hb'
    · have := hb'.1; omega
    · obtain ⟨cells, ho, _⟩ := hJ2
      have := (ho.lt _ hb').1
      omega
  · exact ⟨hk3.os.trans (hk2.os.trans h.bel.os), hk3.tape.trans (hk2.tape.trans h.bel.tape), hk3.output.trans (hk2.output.trans h.bel.output), by have := h.bel.size; omega, fun b hb' => (hk3.block b (by show b ≠ _; omega)).trans ((hk2.block b ⟨by have := h.bel.size; omega, fun e => by have := hob _ e; omega⟩).trans (h.bel.block b hb'))⟩
  · exact ⟨hk3.os.trans (hk2.os.trans h.kr.os), hk3.tape.trans (hk2.tape.trans h.kr.tape), hk3.output.trans (hk2.output.trans h.kr.output), by omega, fun b hb' => (hk3.block b (by show b ≠ _; have := hb'.1; omega)).trans ((hk2.block b ⟨by have := hb'.2; omega, fun e => by have := hob _ e; have := hb'.2; omega⟩).trans (h.kr.block b hb'))⟩
end Go.Proofs.Ytcmiphgeakdonaa
