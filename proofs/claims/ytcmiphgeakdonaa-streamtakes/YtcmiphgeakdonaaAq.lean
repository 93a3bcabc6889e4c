/- A batch among those that are held: what hold answers. -/
import Derived.Test.YtcmiphgeakdonaaAp
namespace Go.Proofs.Ytcmiphgeakdonaa
open Go.Shelf Go.RowKit Go.Lib Go.Sort
set_option linter.unusedVariables false
set_option linter.unusedSimpArgs false
attribute [local go_sem ↓] Go.wp_at_zero Go.wp_at_succ
theorem ins_rel {rel : Rel Bat} {K : Nat → Prop} {W : World} {cs fs : List Value} {k : Nat} {h : List Bat} (hl : cs.length = h.length * 3) (hf : fs.length = 3) (hk : k ≤ h.length) (b : Bat) (hr : ∀ j (hj : j < h.length), rel K W ((cs.drop (j * 3)).take 3) h[j]) (hb : rel K W fs b) :
    ∀ j (hj : j < (h.take k ++ b :: h.drop k).length), rel K W (((cs.take (k * 3) ++ (fs ++ cs.drop (k * 3))).drop (j * 3)).take 3) (h.take k ++ b :: h.drop k)[j] := by
  intro j hj
  have hlt : (cs.take (k * 3)).length = k * 3 := by rw [List.length_take]; omega
  have hkt : (h.take k).length = k := by rw [List.length_take]; omega
  have hj2 : j < h.length + 1 := by simp at hj; omega
  by_cases h1 : j < k
  · rw [List.drop_append_of_le_length (by omega), List.take_append_of_le_length (by rw [List.length_drop]; omega), List.drop_take, List.take_take, show min 3 (k * 3 - j * 3) = 3 by omega, List.getElem_append_left (by omega), List.getElem_take]
    exact hr j (by omega)
  · by_cases h2 : j = k
    · subst h2
      rw [drop_len hlt, List.take_append_of_le_length (by omega), List.take_of_length_le (by omega), List.getElem_append_right (by omega)]
      simp only [hkt, Nat.sub_self, List.getElem_cons_zero]
      exact hb
    · obtain ⟨i, rfl⟩ : ∃ i, j = i + 1 := ⟨j - 1, by omega⟩
      have e1 : (cs.take (k * 3) ++ (fs ++ cs.drop (k * 3))).drop ((i + 1) * 3) = cs.drop (i * 3) := by
        rw [← List.append_assoc, List.drop_append, List.drop_of_length_le (by rw [List.length_append, hlt, hf]; omega), List.nil_append, List.drop_drop]
        congr 1
        rw [List.length_append, hlt, hf]
        omega
      have e2 : (h.take k ++ b :: h.drop k)[i + 1] = h[i]'(by omega) := by
        rw [List.getElem_append_right (by omega)]
        simp only [hkt, show i + 1 - k = (i - k) + 1 by omega, List.getElem_cons_succ, List.getElem_drop, show k + (i - k) = i by omega]
      rw [e1, e2]
      exact hr i (by omega)
theorem bat_one {K : Nat → Prop} {W : World} {cs : List Value} {y : Bat} (h : rBat K W cs y) : ∀ u ∈ cs, u.oneCell' = true := by
  obtain ⟨v, rfl, _, hl⟩ := h
  obtain ⟨q, c, rfl, _⟩ := hl
  intro u hu
  simp only [List.mem_cons, List.not_mem_nil, or_false] at hu
  rcases hu with rfl | rfl | rfl <;> rfl
theorem cells_one {cs : List Value} {n : Nat} (hl : cs.length = n * 3) (h : ∀ j, j < n → ∀ u ∈ (cs.drop (j * 3)).take 3, u.oneCell' = true) : ∀ u ∈ cs, u.oneCell' = true := by
  intro u hu
  obtain ⟨i, hi, rfl⟩ := List.getElem_of_mem hu
  refine h (i / 3) (by omega) _ ?_
  rw [List.mem_take_iff_getElem]
  refine ⟨i % 3, by rw [List.length_drop]; omega, ?_⟩
  rw [List.getElem_drop]
  congr 1
  omega
/-- What is held, with one more. -/
def insB (b : Bat) (h : List Bat) : List Bat := h.take (h.findIdx (gtS b.s)) ++ b :: h.drop (h.findIdx (gtS b.s))
theorem insB_length (b : Bat) (h : List Bat) : (insB b h).length = h.length + 1 := by unfold insB; simp; omega
set_option maxRecDepth 100000 in
set_option maxHeartbeats 4000000 in
theorem hold_any (x : In_) (p1 p2 : Option Addr) (r1 r2 : Nat) (b : Bat) (pb : Option Addr) (cb : Nat) (K' P : Nat → Prop) (base : Nat) (w : World) (hI : OwnI P base w (.slice p1 x.h.length r1) (.slice p2 x.r.length r2) x.h x.r)
    (hbt : ListIs rRow 1 24 K' w (.slice pb b.r.length cb) b.r) (hK' : ∀ g, K' g → base ≤ g ∧ g < w.heap.size ∧ (Value.slice p1 x.h.length r1).ownBlock ≠ some g ∧ (Value.slice p2 x.r.length r2).ownBlock ≠ some g ∧ P g) (hP : ∀ g, w.heap.size ≤ g → P g) (hbase : base ≤ w.heap.size) (hb64 : b.s < 18446744073709551616) (hby : (x.h.length + 1) * 40 ≤ 140737488355328) :
    Calls Try.prog 40 #[.agg #[.int .u64 (x.m.qb : Int), .int .u64 (x.m.qn : Int), .int .i64 x.m.at_, .int .i64 x.m.fr, .int .i64 x.m.tq, .int .u64 (x.n : Int), .slice p1 x.h.length r1, .slice p2 x.r.length r2, .bool x.d], .agg #[.int .u64 (b.s : Int), .bool b.l, .slice pb b.r.length cb]] w fun e w' => ∃ p3 r3, e = .returned (.agg #[.int .u64 (x.m.qb : Int), .int .u64 (x.m.qn : Int), .int .i64 x.m.at_, .int .i64 x.m.fr, .int .i64 x.m.tq, .int .u64 (x.n : Int), .slice p3 (x.h.length + 1) r3, .slice p2 x.r.length r2, .bool x.d]) ∧ OwnI P base w' (.slice p3 (x.h.length + 1) r3) (.slice p2 x.r.length r2) (insB b x.h) x.r ∧ Below base w w' ∧ Kept (fun g => g < w.heap.size ∧ (Value.slice p1 x.h.length r1).ownBlock ≠ some g) w w' ∧ (∀ g, (Value.slice p3 (x.h.length + 1) r3).ownBlock = some g → (Value.slice p1 x.h.length r1).ownBlock = some g ∨ w.heap.size + 3 ≤ g) := by
  obtain ⟨K, c1, c2, hK, hA, hQ, o1, rl1, o2, rl2⟩ := hI
  obtain ⟨W0, hW0, hb0, hs0, g0, g1, g2⟩ := three_boxes w #[.int .u64 (x.m.qb : Int), .int .u64 (x.m.qn : Int), .int .i64 x.m.at_, .int .i64 x.m.fr, .int .i64 x.m.tq, .int .u64 (x.n : Int), .slice p1 x.h.length r1, .slice p2 x.r.length r2, .bool x.d] #[.int .u64 (b.s : Int), .bool b.l, .slice pb b.r.length cb] #[.int .u64 0, .int .u64 0, .int .i64 0, .int .i64 0, .int .i64 0, .int .u64 0, .slice none 0 0, .slice none 0 0, .bool false] 68 91 68
  have hlist : ListIs rBat 3 40 (From base w) w (.slice p1 x.h.length r1) x.h := by
    obtain ⟨p, c, e, hl⟩ := OwnR.list mBat (rel := rBat) (bytes := 40) (⟨K, c1, fun b hb => ⟨(hK b hb).1, (hK b hb).2.1, (hK b hb).2.2.1⟩, o1, rl1⟩ : OwnR rBat 3 91 base w (.slice p1 x.h.length r1) x.h) (by omega)
    rw [e]; exact hl
  have hcap : x.h.length ≤ r1 := by
    obtain ⟨_, _, e, h9, _⟩ := hlist
    cases e; exact h9.2
  have HV : Hid (∀ V, Below W0.heap.size W0 V → V.heap[w.heap.size]? = some (.cells #[.int .u64 (x.m.qb : Int), .int .u64 (x.m.qn : Int), .int .i64 x.m.at_, .int .i64 x.m.fr, .int .i64 x.m.tq, .int .u64 (x.n : Int), .slice p1 x.h.length r1, .slice p2 x.r.length r2, .bool x.d] 68 (0, 0)) ∧ V.heap[w.heap.size + 1]? = some (.cells #[.int .u64 (b.s : Int), .bool b.l, .slice pb b.r.length cb] 91 (0, 0)) ∧ V.heap[w.heap.size + 1 + 1]? = some (.cells #[.int .u64 0, .int .u64 0, .int .i64 0, .int .i64 0, .int .i64 0, .int .u64 0, .slice none 0 0, .slice none 0 0, .bool false] 68 (0, 0)) ∧ Below w.heap.size w V) := fun V hb =>
    ⟨(hb.block _ (by omega)).trans g0, (hb.block _ (by omega)).trans g1, (hb.block _ (by omega)).trans g2, hb0.trans (hb.mono hb0.size)⟩
  have CI : Hid (Calls Try.prog 61 #[.slice p1 x.h.length r1, .func (.func 62) #[] #[.pointer (some ⟨w.heap.size + 1, 0, none⟩)]] W0 fun e w' => ∃ k : Int, e = .returned (.int .i64 k) ∧ IdxP (gtS b.s) x.h k ∧ Below W0.heap.size W0 w') :=
    index_any 62 _ enters62 (gtS b.s) _ x.h (From base w) W0 (hlist.later mBat From.lt hb0) (fun g hg => Nat.lt_of_lt_of_le hg.2 hb0.size)
      (fun W hW z _ p c hz => gtS_any z p c _ b.s W ((hW.cell (p := ⟨w.heap.size + 1, 0, none⟩) (by show w.heap.size + 1 < _; omega)).trans (cell_of_row (k := 0) g1 rfl)) (by have := hW.size; omega) hb64 hz)
  have hfs1 : ∀ u ∈ ([.int .u64 (b.s : Int), .bool b.l, .slice pb b.r.length cb] : List Value), u.oneCell' = true := by
    intro u hu
    simp only [List.mem_cons, List.not_mem_nil, or_false] at hu
    rcases hu with rfl | rfl | rfl <;> rfl
  have hbb : rBat K' w [.int .u64 (b.s : Int), .bool b.l, .slice pb b.r.length cb] b := ⟨_, rfl, hb64, hbt⟩
  -- what comes of Insert
  have CN : Hid (∀ w1, Below W0.heap.size W0 w1 → Calls Try.prog 63 #[.slice p1 x.h.length r1, .int .i64 ((x.h.findIdx (gtS b.s) : Nat) : Int), .slice (some ⟨w1.heap.size, 0, none⟩) 1 1] (w1.alloc (.cells #[.int .u64 (b.s : Int), .bool b.l, .slice pb b.r.length cb] 91)) fun e w' => ∃ p3 r3, e = .returned (.slice p3 (x.h.length + 1) r3) ∧ (∃ Vz z2, w'.heap[w.heap.size]? = some (.cells #[.int .u64 (x.m.qb : Int), .int .u64 (x.m.qn : Int), .int .i64 x.m.at_, .int .i64 x.m.fr, .int .i64 x.m.tq, .int .u64 (x.n : Int), .slice p1 x.h.length r1, .slice p2 x.r.length r2, .bool x.d] 68 (0, 0)) ∧ w'.heap[w.heap.size + 1 + 1]? = some (.cells #[.int .u64 0, .int .u64 0, .int .i64 0, .int .i64 0, .int .i64 0, .int .u64 0, .slice none 0 0, .slice none 0 0, .bool false] 68 (0, 0)) ∧ z2 = Vz ∧ Vz = (0 : Nat)) ∧ ∀ X, Kept (fun g => g ≠ w.heap.size ∧ g ≠ w.heap.size + 1 + 1) w' X → OwnI P base X (.slice p3 (x.h.length + 1) r3) (.slice p2 x.r.length r2) (insB b x.h) x.r ∧ Below base w X ∧ Kept (fun g => g < w.heap.size ∧ (Value.slice p1 x.h.length r1).ownBlock ≠ some g) w X ∧ (∀ g, (Value.slice p3 (x.h.length + 1) r3).ownBlock = some g → (Value.slice p1 x.h.length r1).ownBlock = some g ∨ w.heap.size + 3 ≤ g)) := fun w1 hb1 => by
    have hbw1 : Below w.heap.size w w1 := hb0.trans (hb1.mono hb0.size)
    obtain ⟨W2, hW2, hbW2, hgW2, hsW2⟩ : ∃ W2, w1.alloc (.cells #[.int .u64 (b.s : Int), .bool b.l, .slice pb b.r.length cb] 91) = W2 ∧ Below w1.heap.size w1 W2 ∧ W2.heap[w1.heap.size]? = some (.cells #[.int .u64 (b.s : Int), .bool b.l, .slice pb b.r.length cb] 91 (0, 0)) ∧ W2.heap.size = w1.heap.size + 1 := ⟨_, rfl, (Below.refl _ _).alloc (Nat.le_refl _) _, heap_alloc_new w1 _, by simp⟩
    rw [hW2]
    have hbw2 : Below w.heap.size w W2 := hbw1.trans (hbW2.mono hbw1.size)
    have hs1 := hb1.size
    have o1' : W2.ownsRow base 91 3 (.slice p1 x.h.length r1) x.h.length c1 := owns_kept o1 (fun g hg => hbw2.block g (o1.lt g hg).2)
    have hone := cells_one o1.1 (fun j hj => bat_one (rl1 j hj))
    refine (insert_any _ c1 x.h.length hone (x.h.findIdx (gtS b.s)) List.findIdx_le_length [.int .u64 (b.s : Int), .bool b.l, .slice pb b.r.length cb] rfl hfs1 w1.heap.size base W2 (by have := hbw2.size; omega) o1' hby hgW2 (fun e => by have := (o1.lt _ e).2; have := hbw1.size; omega)).mono ?_
    rintro e w' ⟨u, rfl, ou, hku, hou⟩
    obtain ⟨p3, r3, rfl⟩ := owns_slice ou
    have hsk := hku.size
    have nbx : ∀ g, w.heap.size ≤ g → g < W2.heap.size → w'.heap[g]? = W2.heap[g]? := fun g h1 h2 => hku.block g ⟨h2, fun e => by have := (o1.lt g e).2; omega⟩
    have hbW02 : Below W0.heap.size W0 W2 := hb1.trans (hbW2.mono hb1.size)
    obtain ⟨v1, _, v3, _⟩ := HV.out W2 hbW02
    refine ⟨p3, r3, rfl, ⟨0, 0, (nbx _ (Nat.le_refl _) (by omega)).trans v1, (nbx _ (by omega) (by omega)).trans v3, rfl, rfl⟩, fun X hX => ?_⟩
    have old : ∀ Q : Nat → Prop, (∀ g, Q g → g < w.heap.size ∧ (Value.slice p1 x.h.length r1).ownBlock ≠ some g) → Kept Q w X := fun Q hQ => by
      have k1 : Kept Q w W2 := kept_of (fun g hg => (hQ g hg).1) hbw2
      have k2 : Kept Q W2 w' := hku.less (fun g hg => ⟨by have := (hQ g hg).1; have := hbw2.size; omega, (hQ g hg).2⟩)
      have k3 : Kept Q w' X := hX.less (fun g hg => ⟨by have := (hQ g hg).1; omega, by have := (hQ g hg).1; omega⟩)
      exact (k1.trans k2).trans k3
    have kB : Kept (fun g => K g ∨ K' g) w X := old _ (fun g hg => hg.elim (fun h => ⟨(hK g h).2.1, (hK g h).2.2.1⟩) (fun h => ⟨(hK' g h).2.1, (hK' g h).2.2.1⟩))
    have hown : ∀ g, (Value.slice p3 (x.h.length + 1) r3).ownBlock = some g → (Value.slice p1 x.h.length r1).ownBlock = some g ∨ W2.heap.size ≤ g := fun g hg => by
      rcases hou with e | ⟨g', h1, e⟩
      · exact .inl (by rw [← e]; exact hg)
      · rw [e] at hg; cases hg; exact .inr h1
    have hszX := hX.size
    have hsz2 := hbw2.size
    refine ⟨⟨fun g => K g ∨ K' g, c1.take (x.h.findIdx (gtS b.s) * 3) ++ ([.int .u64 (b.s : Int), .bool b.l, .slice pb b.r.length cb] ++ c1.drop (x.h.findIdx (gtS b.s) * 3)), c2, fun g hg => ?_, fun g hg e => ?_, fun g hg => ?_, ?_, ?_, owns_kept o2 (fun g hg => ?_), fun j hj => mRow _ _ _ _ _ _ (fun _ h => .inl h) (kB.less fun _ h => .inl h) (rl2 j hj)⟩, ?_, old _ (fun g hg => hg), fun g hg => (hown g hg).imp id (fun h => by omega)⟩
    · have h4 : base ≤ g ∧ g < w.heap.size ∧ (Value.slice p1 x.h.length r1).ownBlock ≠ some g ∧ (Value.slice p2 x.r.length r2).ownBlock ≠ some g ∧ P g := hg.elim (hK g) (hK' g)
      refine ⟨h4.1, by omega, fun e => ?_, h4.2.2.2⟩
      rcases hown g e with h | h
      · exact h4.2.2.1 h
      · omega
    · rcases hown g hg with h | h
      · exact hA g h e
      · have := (o2.lt g e).2; omega
    · rcases hg with hg | hg
      · rcases hown g hg with h | h
        · exact hQ g (.inl h)
        · exact hP g (by omega)
      · exact hQ g (.inr hg)
    · rw [insB_length]
      refine owns_kept ou (fun g hg => hX.block g ?_)
      rcases hown g hg with h | h
      · have := (o1.lt g h).2; exact ⟨by omega, by omega⟩
      · exact ⟨by omega, by omega⟩
    · exact ins_rel o1.1 rfl List.findIdx_le_length b (fun j hj => mBat _ _ _ _ _ _ (fun _ h => .inl h) (kB.less fun _ h => .inl h) (rl1 j hj)) (mBat _ _ _ _ _ _ (fun _ h => .inr h) (kB.less fun _ h => .inr h) hbb)
    · have := (o2.lt g hg).2
      exact (old (fun g' => g' = g) (fun g' e => ⟨by omega, fun h => by rw [e] at h; exact hA g h hg⟩)).block g rfl
    · have kk := old (fun g => g < base) (fun g hg => ⟨by omega, fun e => by have := (o1.lt g e).1; omega⟩)
      exact ⟨kk.os, kk.tape, kk.output, kk.size, kk.block⟩
  have a6 := cell_of_row (k := 6) (v := .slice p1 x.h.length r1) g0 rfl
  have hh63 : x.h.length ≤ 3518437208883 := by omega
  clear hlist hK hA hQ o1 o2 rl1 rl2 hbt hK' hfs1 hbb g0 g1 g2 hb0 hby
  go_enter Try.func40, Try.ntmps40
  go_wp2_with fail
  refine CI.out.mono ?_
  rintro e w1 ⟨k, rfl, hk, hb1⟩
  obtain ⟨v1, v2, v3, v4⟩ := HV.out w1 hb1
  have CN1 := hid (CN.out w1 hb1)
  clear a6 CI CN
  have a6 := cell_of_row (k := 6) (v := .slice p1 x.h.length r1) v1 rfl
  have b0 := cell_of_row (k := 0) (v := .int .u64 (b.s : Int)) v2 rfl
  have b1 := cell_of_row (k := 1) (v := .bool b.l) v2 rfl
  have b2 := cell_of_row (k := 2) (v := .slice pb b.r.length cb) v2 rfl
  clear v1 v2 v3 v4 hb1 HV
  have FIN : Hid (∀ (p3 : Option Addr) (r3 : Nat) (w2 : World), w2.heap[w.heap.size]? = some (.cells #[.int .u64 (x.m.qb : Int), .int .u64 (x.m.qn : Int), .int .i64 x.m.at_, .int .i64 x.m.fr, .int .i64 x.m.tq, .int .u64 (x.n : Int), .slice p1 x.h.length r1, .slice p2 x.r.length r2, .bool x.d] 68 (0, 0)) → w2.heap[w.heap.size + 1 + 1]? = some (.cells #[.int .u64 0, .int .u64 0, .int .i64 0, .int .i64 0, .int .i64 0, .int .u64 0, .slice none 0 0, .slice none 0 0, .bool false] 68 (0, 0)) → ∃ V, w2.setCell ⟨w.heap.size, 6, none⟩ (.slice p3 (x.h.length + 1) r3) = V ∧ w2.cell? ⟨w.heap.size, 6, none⟩ = some (.slice p1 x.h.length r1) ∧ w2.frozen? ⟨w.heap.size, 6, none⟩ = false ∧ V.rangeAt w.heap.size 0 [.int .u64 (x.m.qb : Int), .int .u64 (x.m.qn : Int), .int .i64 x.m.at_, .int .i64 x.m.fr, .int .i64 x.m.tq, .int .u64 (x.n : Int), .slice p3 (x.h.length + 1) r3, .slice p2 x.r.length r2, .bool x.d] ∧ V.there (w.heap.size + 1 + 1) 0 9 ∧ ∃ X, V.setCells (w.heap.size + 1 + 1) 0 [.int .u64 (x.m.qb : Int), .int .u64 (x.m.qn : Int), .int .i64 x.m.at_, .int .i64 x.m.fr, .int .i64 x.m.tq, .int .u64 (x.n : Int), .slice p3 (x.h.length + 1) r3, .slice p2 x.r.length r2, .bool x.d] = X ∧ (loadVar 68 ⟨w.heap.size + 1 + 1, 0, none⟩).run Try.prog X = .ok (.agg #[.int .u64 (x.m.qb : Int), .int .u64 (x.m.qn : Int), .int .i64 x.m.at_, .int .i64 x.m.fr, .int .i64 x.m.tq, .int .u64 (x.n : Int), .slice p3 (x.h.length + 1) r3, .slice p2 x.r.length r2, .bool x.d]) X ∧ Kept (fun g => g ≠ w.heap.size ∧ g ≠ w.heap.size + 1 + 1) w2 X) := fun p3 r3 w2 q1 q3 => by
    obtain ⟨e1, e2, e3, e4, e5⟩ := setCell_any w2 w.heap.size 6 (.slice p3 (x.h.length + 1) r3)
    have hgV : (w2.setCell ⟨w.heap.size, 6, none⟩ (.slice p3 (x.h.length + 1) r3)).heap[w.heap.size]? = some (.cells #[.int .u64 (x.m.qb : Int), .int .u64 (x.m.qn : Int), .int .i64 x.m.at_, .int .i64 x.m.fr, .int .i64 x.m.tq, .int .u64 (x.n : Int), .slice p3 (x.h.length + 1) r3, .slice p2 x.r.length r2, .bool x.d] 68 (0, 0)) := by rw [heap_setCell_same w2 w.heap.size 6 _ 68 _ q1]; rfl
    obtain ⟨hth, X, hX, hld, hsX, hkX⟩ := put_row (w2.setCell ⟨w.heap.size, 6, none⟩ (.slice p3 (x.h.length + 1) r3)) (w.heap.size + 1 + 1) _ 68 ((e5 _ (by omega)).trans q3) [.int .u64 (x.m.qb : Int), .int .u64 (x.m.qn : Int), .int .i64 x.m.at_, .int .i64 x.m.fr, .int .i64 x.m.tq, .int .u64 (x.n : Int), .slice p3 (x.h.length + 1) r3, .slice p2 x.r.length r2, .bool x.d] rfl Try.underlying68 rfl sz_In
    exact ⟨_, rfl, cell_of_row (k := 6) q1 rfl, frozen_zero q1 6, fun j u hu => by rw [Nat.zero_add]; exact cell_of_row hgV (by simpa using hu), hth, X, hX, hld, ⟨hkX.os.trans e2, hkX.tape.trans e3, hkX.output.trans e4, by omega, fun g hg => (hkX.block g hg.2).trans (e5 g hg.1)⟩⟩
  rcases hk with ⟨i, rfl, hi, hfi, _⟩ | ⟨rfl, hany⟩
  · have z0 : ¬ (i : Int) < 0 := by omega
    rw [hfi] at CN1
    clear hfi
    go_wp2_with fail
    refine CN1.out.mono ?_
    rintro e w2 ⟨p3, r3, rfl, ⟨_, _, q1, q3, _, _⟩, hfin⟩
    obtain ⟨V, hV, hc6, hf6, hra, hth, X, hX, hld, hkX⟩ := FIN.out p3 r3 w2 q1 q3
    have HFIN := hid (hfin X hkX)
    have HRA : Hid (V.rangeAt w.heap.size 0 [.int .u64 (x.m.qb : Int), .int .u64 (x.m.qn : Int), .int .i64 x.m.at_, .int .i64 x.m.fr, .int .i64 x.m.tq, .int .u64 (x.n : Int), .slice p3 (x.h.length + 1) r3, .slice p2 x.r.length r2, .bool x.d]) := hra
    have HTH : Hid (V.there (w.heap.size + 1 + 1) 0 9) := hth
    have HWX : Hid (V.setCells (w.heap.size + 1 + 1) 0 (#[.int .u64 (x.m.qb : Int), .int .u64 (x.m.qn : Int), .int .i64 x.m.at_, .int .i64 x.m.fr, .int .i64 x.m.tq, .int .u64 (x.n : Int), .slice p3 (x.h.length + 1) r3, .slice p2 x.r.length r2, .bool x.d] : Array Value).toList = X) := hX
    have HLD : Hid ((loadVar 68 ⟨w.heap.size + 1 + 1, 0, none⟩).run Try.prog X = .ok (.agg #[.int .u64 (x.m.qb : Int), .int .u64 (x.m.qn : Int), .int .i64 x.m.at_, .int .i64 x.m.fr, .int .i64 x.m.tq, .int .u64 (x.n : Int), .slice p3 (x.h.length + 1) r3, .slice p2 x.r.length r2, .bool x.d]) X) := hld
    have HON : Hid ((#[.int .u64 (x.m.qb : Int), .int .u64 (x.m.qn : Int), .int .i64 x.m.at_, .int .i64 x.m.fr, .int .i64 x.m.tq, .int .u64 (x.n : Int), .slice p3 (x.h.length + 1) r3, .slice p2 x.r.length r2, .bool x.d] : Array Value).all (·.oneCell') = true) := by show _ = _; simp [Value.oneCell']
    clear CN1 FIN hfin hkX q1 q3 hra hth hX hld a6 b0 b1 b2
    go_wp2_with (first | (refine wpList_load_mid rfl 68 _ rfl w.heap.size 0 rfl _ _ HRA.out Try.underlying68 rfl sz_In ?_) | (refine wpList_store_mid rfl 68 _ _ rfl (w.heap.size + 1 + 1) 0 #[.int .u64 (x.m.qb : Int), .int .u64 (x.m.qn : Int), .int .i64 x.m.at_, .int .i64 x.m.fr, .int .i64 x.m.tq, .int .u64 (x.n : Int), .slice p3 (x.h.length + 1) r3, .slice p2 x.r.length r2, .bool x.d] rfl rfl HTH.out sz_In HON.out ?_; rw [HWX.out]))
    refine bodyPost_ret (v := .agg #[.int .u64 (x.m.qb : Int), .int .u64 (x.m.qn : Int), .int .i64 x.m.at_, .int .i64 x.m.fr, .int .i64 x.m.tq, .int .u64 (x.n : Int), .slice p3 (x.h.length + 1) r3, .slice p2 x.r.length r2, .bool x.d]) (by simp only [results, Try.results40]; simp [asAddr, Act.put, HLD.out]) rfl ?_
    exact ⟨_, _, rfl, HFIN.out⟩
  · have hfi : x.h.findIdx (gtS b.s) = x.h.length := by
      rw [List.findIdx_eq_length]
      intro y hy
      simpa using List.any_eq_false.1 hany y hy
    rw [hfi] at CN1
    clear hfi hany
    go_wp2_with fail
    refine CN1.out.mono ?_
    rintro e w2 ⟨p3, r3, rfl, ⟨_, _, q1, q3, _, _⟩, hfin⟩
    obtain ⟨V, hV, hc6, hf6, hra, hth, X, hX, hld, hkX⟩ := FIN.out p3 r3 w2 q1 q3
    have HFIN := hid (hfin X hkX)
    have HRA : Hid (V.rangeAt w.heap.size 0 [.int .u64 (x.m.qb : Int), .int .u64 (x.m.qn : Int), .int .i64 x.m.at_, .int .i64 x.m.fr, .int .i64 x.m.tq, .int .u64 (x.n : Int), .slice p3 (x.h.length + 1) r3, .slice p2 x.r.length r2, .bool x.d]) := hra
    have HTH : Hid (V.there (w.heap.size + 1 + 1) 0 9) := hth
    have HWX : Hid (V.setCells (w.heap.size + 1 + 1) 0 (#[.int .u64 (x.m.qb : Int), .int .u64 (x.m.qn : Int), .int .i64 x.m.at_, .int .i64 x.m.fr, .int .i64 x.m.tq, .int .u64 (x.n : Int), .slice p3 (x.h.length + 1) r3, .slice p2 x.r.length r2, .bool x.d] : Array Value).toList = X) := hX
    have HLD : Hid ((loadVar 68 ⟨w.heap.size + 1 + 1, 0, none⟩).run Try.prog X = .ok (.agg #[.int .u64 (x.m.qb : Int), .int .u64 (x.m.qn : Int), .int .i64 x.m.at_, .int .i64 x.m.fr, .int .i64 x.m.tq, .int .u64 (x.n : Int), .slice p3 (x.h.length + 1) r3, .slice p2 x.r.length r2, .bool x.d]) X) := hld
    have HON : Hid ((#[.int .u64 (x.m.qb : Int), .int .u64 (x.m.qn : Int), .int .i64 x.m.at_, .int .i64 x.m.fr, .int .i64 x.m.tq, .int .u64 (x.n : Int), .slice p3 (x.h.length + 1) r3, .slice p2 x.r.length r2, .bool x.d] : Array Value).all (·.oneCell') = true) := by show _ = _; simp [Value.oneCell']
    clear CN1 FIN hfin hkX q1 q3 hra hth hX hld a6 b0 b1 b2
    go_wp2_with (first | (refine wpList_load_mid rfl 68 _ rfl w.heap.size 0 rfl _ _ HRA.out Try.underlying68 rfl sz_In ?_) | (refine wpList_store_mid rfl 68 _ _ rfl (w.heap.size + 1 + 1) 0 #[.int .u64 (x.m.qb : Int), .int .u64 (x.m.qn : Int), .int .i64 x.m.at_, .int .i64 x.m.fr, .int .i64 x.m.tq, .int .u64 (x.n : Int), .slice p3 (x.h.length + 1) r3, .slice p2 x.r.length r2, .bool x.d] rfl rfl HTH.out sz_In HON.out ?_; rw [HWX.out]))
    refine bodyPost_ret (v := .agg #[.int .u64 (x.m.qb : Int), .int .u64 (x.m.qn : Int), .int .i64 x.m.at_, .int .i64 x.m.fr, .int .i64 x.m.tq, .int .u64 (x.n : Int), .slice p3 (x.h.length + 1) r3, .slice p2 x.r.length r2, .bool x.d]) (by simp only [results, Try.results40]; simp [asAddr, Act.put, HLD.out]) rfl ?_
    exact ⟨_, _, rfl, HFIN.out⟩
end Go.Proofs.Ytcmiphgeakdonaa
