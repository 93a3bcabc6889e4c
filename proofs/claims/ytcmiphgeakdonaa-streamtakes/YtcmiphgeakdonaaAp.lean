/- A stream that is received, in new memory of its own. -/
import Derived.Test.YtcmiphgeakdonaaAo
namespace Go.Proofs.Ytcmiphgeakdonaa
open Go.Shelf Go.RowKit Go.Lib Go.Sort
set_option linter.unusedVariables false
set_option linter.unusedSimpArgs false
attribute [local go_sem ↓] Go.wp_at_zero Go.wp_at_succ
/-- What is held and what came, each a row of its own, apart from each other. -/
def OwnI (P : Nat → Prop) (base : Nat) (W : World) (vh vr : Value) (h : List Bat) (r : List (List Val)) : Prop :=
  ∃ (K : Nat → Prop) (c1 c2 : List Value), (∀ b, K b → base ≤ b ∧ b < W.heap.size ∧ vh.ownBlock ≠ some b ∧ vr.ownBlock ≠ some b ∧ P b) ∧ (∀ g, vh.ownBlock = some g → vr.ownBlock ≠ some g) ∧ (∀ g, vh.ownBlock = some g ∨ vr.ownBlock = some g → P g) ∧
    W.ownsRow base 91 3 vh h.length c1 ∧ (∀ j (hj : j < h.length), rBat K W ((c1.drop (j * 3)).take 3) h[j]) ∧ W.ownsRow base 96 1 vr r.length c2 ∧ ∀ j (hj : j < r.length), rRow K W ((c2.drop (j * 1)).take 1) r[j]
theorem OwnR.less {α : Type} {rel : Rel α} {size : Nat} {te : TypeId} {B C : Nat} {W : World} {u : Value} {xs : List α} (h : OwnR rel size te B W u xs) (hb : C ≤ B) : OwnR rel size te C W u xs := by
  obtain ⟨K, cells, hK, ⟨hl, ho⟩, hr⟩ := h
  refine ⟨K, cells, fun b h => ⟨Nat.le_trans hb (hK b h).1, (hK b h).2⟩, ⟨hl, ?_⟩, hr⟩
  rcases ho with ho | ⟨g, cap, cur, e, h1, r⟩
  · exact .inl ho
  · exact .inr ⟨g, cap, cur, e, Nat.le_trans hb h1, r⟩
theorem owns_less {size : Nat} {te : TypeId} {B C : Nat} {W : World} {u : Value} {n : Nat} {cells : List Value} (h : W.ownsRow B te size u n cells) (hb : C ≤ B) : W.ownsRow C te size u n cells := by
  obtain ⟨hl, ho⟩ := h
  rcases ho with ho | ⟨g, cap, cur, e, h1, r⟩
  · exact ⟨hl, .inl ho⟩
  · exact ⟨hl, .inr ⟨g, cap, cur, e, Nat.le_trans hb h1, r⟩⟩
theorem owns_kept {size : Nat} {te : TypeId} {B : Nat} {W W' : World} {u : Value} {n : Nat} {cells : List Value} (h : W.ownsRow B te size u n cells) (hk : ∀ g, u.ownBlock = some g → W'.heap[g]? = W.heap[g]?) : W'.ownsRow B te size u n cells := by
  obtain ⟨hl, ho⟩ := h
  rcases ho with ho | ⟨g, cap, cur, rfl, h1, hg, r⟩
  · exact ⟨hl, .inl ho⟩
  · exact ⟨hl, .inr ⟨g, cap, cur, rfl, h1, (hk g rfl).trans hg, r⟩⟩
theorem owns_slice {size : Nat} {te : TypeId} {B : Nat} {W : World} {u : Value} {n : Nat} {cells : List Value} (h : W.ownsRow B te size u n cells) : ∃ p c, u = .slice p n c := by
  obtain ⟨hl, ⟨rfl, h0⟩ | ⟨g, cap, cur, rfl, h1, hg, r⟩⟩ := h
  · exact ⟨none, 0, by rw [h0]⟩
  · exact ⟨_, cap, rfl⟩
theorem OwnR.slice {α : Type} {rel : Rel α} {size : Nat} {te : TypeId} {B : Nat} {W : World} {u : Value} {xs : List α} (h : OwnR rel size te B W u xs) : ∃ p c, u = .slice p xs.length c := by
  obtain ⟨K, cells, hK, ho, hr⟩ := h
  exact owns_slice ho
theorem OwnR.lt {α : Type} {rel : Rel α} {size : Nat} {te : TypeId} {B : Nat} {W : World} {u : Value} {xs : List α} (h : OwnR rel size te B W u xs) : ∀ g, u.ownBlock = some g → g < W.heap.size := fun g hg => (h.block g hg).2
/-- The first is made ahead of the second. -/
theorem OwnI.of {P : Nat → Prop} {B : Nat} {W W1 : World} {vh vr : Value} {h : List Bat} {r : List (List Val)} (h1 : OwnR rBat 3 91 B W1 vh h) (hb : Below W1.heap.size W1 W) (h2 : OwnR rRow 1 96 W1.heap.size W vr r) (hB : B ≤ W1.heap.size) (hP : ∀ g, B ≤ g → g < W.heap.size → P g) : OwnI P B W vh vr h r := by
  obtain ⟨K1, c1, hK1, o1, r1⟩ := h1
  obtain ⟨K2, c2, hK2, o2, r2⟩ := h2
  have hk1 : Kept K1 W1 W := kept_of (fun b hb => (hK1 b hb).2.1) hb
  refine ⟨fun b => K1 b ∨ K2 b, c1, c2, fun b hb' => ?_, fun g hg e => ?_, fun g hg => ?_, owns_kept o1 (fun g hg => hb.block g (o1.lt g hg).2), fun j hj => mBat _ _ _ _ _ _ (fun _ h => .inl h) hk1 (r1 j hj), owns_less o2 hB, fun j hj => mRow _ _ _ _ _ _ (fun _ h => .inr h) (Kept.refl _ _) (r2 j hj)⟩
  · rcases hb' with h | h
    · have := hK1 b h
      refine ⟨this.1, Nat.lt_of_lt_of_le this.2.1 hb.size, this.2.2, fun e => ?_, hP b this.1 (Nat.lt_of_lt_of_le this.2.1 hb.size)⟩
      have := (o2.lt b e).1; omega
    · have := hK2 b h
      refine ⟨by omega, this.2.1, fun e => ?_, this.2.2, hP b (by omega) this.2.1⟩
      have := (o1.lt b e).2; omega
  · have := (o1.lt g hg).2
    have := (o2.lt g e).1
    omega
  · rcases hg with h | h
    · have := o1.lt g h; have := hb.size; exact hP g (by omega) (by omega)
    · have := o2.lt g h; exact hP g (by omega) (by omega)
theorem OwnI.kept {P : Nat → Prop} {B : Nat} {W W' : World} {vh vr : Value} {h : List Bat} {r : List (List Val)} (hI : OwnI P B W vh vr h r) (hk : Kept (fun b => B ≤ b) W W') : OwnI P B W' vh vr h r := by
  obtain ⟨K, c1, c2, hK, hA, hQ, o1, r1, o2, r2⟩ := hI
  have hkK : Kept K W W' := hk.less fun b hb => (hK b hb).1
  exact ⟨K, c1, c2, fun b hb => ⟨(hK b hb).1, Nat.lt_of_lt_of_le (hK b hb).2.1 hk.size, (hK b hb).2.2⟩, hA, hQ, owns_kept o1 (fun g hg => hk.block g (o1.lt g hg).1), fun j hj => mBat _ _ _ _ _ _ (fun _ h => h) hkK (r1 j hj), owns_kept o2 (fun g hg => hk.block g (o2.lt g hg).1), fun j hj => mRow _ _ _ _ _ _ (fun _ h => h) hkK (r2 j hj)⟩
theorem OwnI.below {P : Nat → Prop} {B : Nat} {W W' : World} {vh vr : Value} {h : List Bat} {r : List (List Val)} (hI : OwnI P B W vh vr h r) (hk : Below W.heap.size W W') : OwnI P B W' vh vr h r := by
  obtain ⟨K, c1, c2, hK, hA, hQ, o1, r1, o2, r2⟩ := hI
  have hkK : Kept K W W' := kept_of (fun b hb => (hK b hb).2.1) hk
  exact ⟨K, c1, c2, fun b hb => ⟨(hK b hb).1, Nat.lt_of_lt_of_le (hK b hb).2.1 hk.size, (hK b hb).2.2⟩, hA, hQ, owns_kept o1 (fun g hg => hk.block g (o1.lt g hg).2), fun j hj => mBat _ _ _ _ _ _ (fun _ h => h) hkK (r1 j hj), owns_kept o2 (fun g hg => hk.block g (o2.lt g hg).2), fun j hj => mRow _ _ _ _ _ _ (fun _ h => h) hkK (r2 j hj)⟩
theorem OwnI.less {P : Nat → Prop} {B C : Nat} {W : World} {vh vr : Value} {h : List Bat} {r : List (List Val)} (hI : OwnI P B W vh vr h r) (hb : C ≤ B) : OwnI P C W vh vr h r := by
  obtain ⟨K, c1, c2, hK, hA, hQ, o1, r1, o2, r2⟩ := hI
  exact ⟨K, c1, c2, fun b h => ⟨Nat.le_trans hb (hK b h).1, (hK b h).2⟩, hA, hQ, owns_less o1 hb, r1, owns_less o2 hb, r2⟩
theorem OwnI.imp {P Q : Nat → Prop} {B : Nat} {W : World} {vh vr : Value} {h : List Bat} {r : List (List Val)} (hI : OwnI P B W vh vr h r) (hp : ∀ b, P b → Q b) : OwnI Q B W vh vr h r := by
  obtain ⟨K, c1, c2, hK, hA, hQ, o1, r1, o2, r2⟩ := hI
  exact ⟨K, c1, c2, fun b hb => ⟨(hK b hb).1, (hK b hb).2.1, (hK b hb).2.2.1, (hK b hb).2.2.2.1, hp b (hK b hb).2.2.2.2⟩, hA, fun g hg => hp g (hQ g hg), o1, r1, o2, r2⟩
theorem OwnI.held {P : Nat → Prop} {B : Nat} {W : World} {vh vr : Value} {h : List Bat} {r : List (List Val)} (hI : OwnI P B W vh vr h r) : OwnR rBat 3 91 B W vh h := by
  obtain ⟨K, c1, c2, hK, hA, hQ, o1, r1, o2, r2⟩ := hI
  exact ⟨K, c1, fun b hb => ⟨(hK b hb).1, (hK b hb).2.1, (hK b hb).2.2.1⟩, o1, r1⟩
theorem OwnI.rows {P : Nat → Prop} {B : Nat} {W : World} {vh vr : Value} {h : List Bat} {r : List (List Val)} (hI : OwnI P B W vh vr h r) : OwnR rRow 1 96 B W vr r := by
  obtain ⟨K, c1, c2, hK, hA, hQ, o1, r1, o2, r2⟩ := hI
  exact ⟨K, c2, fun b hb => ⟨(hK b hb).1, (hK b hb).2.1, (hK b hb).2.2.2.1⟩, o2, r2⟩
set_option maxRecDepth 100000 in
set_option maxHeartbeats 4000000 in
theorem f_InO (K : Nat → Prop) (w : World) (cs : List Value) (x : In_) (h : rIn K w cs x) (hK : ∀ b, K b → b < w.heap.size) :
    Calls Try.prog 37 #[.agg cs.toArray] w fun e w' => ∃ p1 r1 p2 r2, e = .returned (.agg #[.int .u64 (x.m.qb : Int), .int .u64 (x.m.qn : Int), .int .i64 x.m.at_, .int .i64 x.m.fr, .int .i64 x.m.tq, .int .u64 (x.n : Int), .slice p1 x.h.length r1, .slice p2 x.r.length r2, .bool x.d]) ∧ OwnI (fun b => b < w'.heap.size) w.heap.size w' (.slice p1 x.h.length r1) (.slice p2 x.r.length r2) x.h x.r ∧ Below w.heap.size w w' := by
  obtain ⟨v1, v2, rfl, q1, n1, n2⟩ := h
  have HL1 : Hid (ListIs rBat 3 40 K w v1 x.h) := n1
  have HL2 : Hid (ListIs rRow 1 24 K w v2 x.r) := n2
  obtain ⟨za1, ya1, rfl, nn1, mm1⟩ := id n1
  obtain ⟨za2, ya2, rfl, nn2, mm2⟩ := id n2
  show Calls Try.prog 37 #[.agg #[.int .u64 (x.m.qb : Int), .int .u64 (x.m.qn : Int), .int .i64 x.m.at_, .int .i64 x.m.fr, .int .i64 x.m.tq, .int .u64 (x.n : Int), .slice za1 x.h.length ya1, .slice za2 x.r.length ya2, .bool x.d]] w _
  have HK : Hid (∀ b, K b → b < w.heap.size) := hK
  have HQ : Hid (okS x.m ∧ x.n < 18446744073709551616) := q1
  obtain ⟨W0, hW0, t0, hs0⟩ := Two.start w 68 #[.int .u64 (x.m.qb : Int), .int .u64 (x.m.qn : Int), .int .i64 x.m.at_, .int .i64 x.m.fr, .int .i64 x.m.tq, .int .u64 (x.n : Int), .slice za1 x.h.length ya1, .slice za2 x.r.length ya2, .bool x.d] #[.int .u64 0, .int .u64 0, .int .i64 0, .int .i64 0, .int .i64 0, .int .u64 0, .slice none 0 0, .slice none 0 0, .bool false] rfl
  have HT0 : Hid (Two 68 [.int .u64 (x.m.qb : Int), .int .u64 (x.m.qn : Int), .int .i64 x.m.at_, .int .i64 x.m.fr, .int .i64 x.m.tq, .int .u64 (x.n : Int), .slice za1 x.h.length ya1, .slice za2 x.r.length ya2, .bool x.d] w W0) := t0
  clear t0 hK nn1 mm1 n1 nn2 mm2 n2 q1
  go_enter Try.func37, Try.ntmps37
  have C1 : Hid (Calls Try.prog 56 #[.slice za1 x.h.length ya1, .func (.func 57) #[] #[]] W0 fun e w' => ∃ u, e = .returned u ∧ OwnR rBat 3 91 W0.heap.size w' u x.h ∧ Below W0.heap.size W0 w') := each_batO f_batch K W0 _ _ (ListIs.later mBat HL1.out HK.out HT0.out.2.2) (fun b hb => Nat.lt_of_lt_of_le (HK.out b hb) HT0.out.2.2.size)
  have c1 := HT0.out.cell (k := 6) (v := .slice za1 x.h.length ya1) rfl
  go_wp2_with fail
  refine C1.out.mono ?_
  rintro e w1 ⟨u1, rfl, hl1, hb1⟩
  obtain ⟨p1, r1, rfl⟩ := hl1.slice
  have T1' : Two 68 [.int .u64 (x.m.qb : Int), .int .u64 (x.m.qn : Int), .int .i64 x.m.at_, .int .i64 x.m.fr, .int .i64 x.m.tq, .int .u64 (x.n : Int), .slice za1 x.h.length ya1, .slice za2 x.r.length ya2, .bool x.d] w w1 := HT0.out.call hb1
  clear c1 C1
  obtain ⟨V1, hV1, f1, t1, s1, k1⟩ := T1'.put (k := 6) (by simp) (.slice p1 x.h.length r1)
  have d1 := T1'.cell (k := 6) (v := .slice za1 x.h.length ya1) rfl
  have T1 : Hid (Two 68 [.int .u64 (x.m.qb : Int), .int .u64 (x.m.qn : Int), .int .i64 x.m.at_, .int .i64 x.m.fr, .int .i64 x.m.tq, .int .u64 (x.n : Int), .slice p1 x.h.length r1, .slice za2 x.r.length ya2, .bool x.d] w V1) := t1
  have L1 : Hid (OwnR rBat 3 91 (w.heap.size + 2) V1 (.slice p1 x.h.length r1) x.h) := (hl1.less HT0.out.lt).kept mBat k1
  clear hb1 hl1 T1' t1 s1 k1
  have C2 : Hid (Calls Try.prog 27 #[.slice za2 x.r.length ya2] V1 fun e w' => ∃ u, e = .returned u ∧ OwnR rRow 1 96 V1.heap.size w' u x.r ∧ Below V1.heap.size V1 w') := f_rowsO K V1 _ _ (ListIs.later mRow HL2.out HK.out T1.out.2.2) (fun b hb => Nat.lt_of_lt_of_le (HK.out b hb) T1.out.2.2.size)
  have c2 := T1.out.cell (k := 7) (v := .slice za2 x.r.length ya2) rfl
  go_wp2_with fail
  refine C2.out.mono ?_
  rintro e w2 ⟨u2, rfl, hl2, hb2⟩
  obtain ⟨p2, r2, rfl⟩ := hl2.slice
  have hI := OwnI.of (P := fun b => b < w2.heap.size) L1.out hb2 hl2 T1.out.lt (fun g _ h => h)
  have T2' : Two 68 [.int .u64 (x.m.qb : Int), .int .u64 (x.m.qn : Int), .int .i64 x.m.at_, .int .i64 x.m.fr, .int .i64 x.m.tq, .int .u64 (x.n : Int), .slice p1 x.h.length r1, .slice za2 x.r.length ya2, .bool x.d] w w2 := T1.out.call hb2
  clear c2 C2
  obtain ⟨V2, hV2, f2, t2, s2, k2⟩ := T2'.put (k := 7) (by simp) (.slice p2 x.r.length r2)
  have d2 := T2'.cell (k := 7) (v := .slice za2 x.r.length ya2) rfl
  have T2 : Hid (Two 68 [.int .u64 (x.m.qb : Int), .int .u64 (x.m.qn : Int), .int .i64 x.m.at_, .int .i64 x.m.fr, .int .i64 x.m.tq, .int .u64 (x.n : Int), .slice p1 x.h.length r1, .slice p2 x.r.length r2, .bool x.d] w V2) := t2
  have L2 : Hid (OwnI (fun b => b < V2.heap.size) (w.heap.size + 2) V2 (.slice p1 x.h.length r1) (.slice p2 x.r.length r2) x.h x.r) := (hI.kept k2).imp (fun b hb => Nat.lt_of_lt_of_le hb k2.size)
  clear hb2 hl2 hI T2' t2 s2 k2
  obtain ⟨hra, hth, W5, hW5, hld, hb5, s5, k5⟩ := T2.out.ret Try.underlying68 rfl sz_In
  have HRA : Hid (V2.rangeAt w.heap.size 0 [.int .u64 (x.m.qb : Int), .int .u64 (x.m.qn : Int), .int .i64 x.m.at_, .int .i64 x.m.fr, .int .i64 x.m.tq, .int .u64 (x.n : Int), .slice p1 x.h.length r1, .slice p2 x.r.length r2, .bool x.d]) := hra
  have HTH : Hid (V2.there (w.heap.size + 1) 0 9) := hth
  have HW5 : Hid (V2.setCells (w.heap.size + 1) 0 (#[.int .u64 (x.m.qb : Int), .int .u64 (x.m.qn : Int), .int .i64 x.m.at_, .int .i64 x.m.fr, .int .i64 x.m.tq, .int .u64 (x.n : Int), .slice p1 x.h.length r1, .slice p2 x.r.length r2, .bool x.d] : Array Value).toList = W5) := hW5
  have HON : Hid ((#[.int .u64 (x.m.qb : Int), .int .u64 (x.m.qn : Int), .int .i64 x.m.at_, .int .i64 x.m.fr, .int .i64 x.m.tq, .int .u64 (x.n : Int), .slice p1 x.h.length r1, .slice p2 x.r.length r2, .bool x.d] : Array Value).all (·.oneCell') = true) := by show _ = _; simp [Value.oneCell']
  have HLD : Hid ((loadVar 68 ⟨w.heap.size + 1, 0, none⟩).run Try.prog W5 = .ok (.agg #[.int .u64 (x.m.qb : Int), .int .u64 (x.m.qn : Int), .int .i64 x.m.at_, .int .i64 x.m.fr, .int .i64 x.m.tq, .int .u64 (x.n : Int), .slice p1 x.h.length r1, .slice p2 x.r.length r2, .bool x.d]) W5) := hld
  have HBF : Hid (Below w.heap.size w W5) := hb5
  have M0 : Hid (OwnI (fun b => b < W5.heap.size) w.heap.size W5 (.slice p1 x.h.length r1) (.slice p2 x.r.length r2) x.h x.r) := ((L2.out.kept k5).less (by omega)).imp (fun b hb => Nat.lt_of_lt_of_le hb k5.size)
  clear hra hth hW5 hld hb5 s5 k5
  go_wp2_with (first | (refine wpList_load_mid rfl 68 _ rfl w.heap.size 0 rfl _ _ HRA.out Try.underlying68 rfl sz_In ?_) | (refine wpList_store_mid rfl 68 _ _ rfl (w.heap.size + 1) 0 #[.int .u64 (x.m.qb : Int), .int .u64 (x.m.qn : Int), .int .i64 x.m.at_, .int .i64 x.m.fr, .int .i64 x.m.tq, .int .u64 (x.n : Int), .slice p1 x.h.length r1, .slice p2 x.r.length r2, .bool x.d] rfl rfl HTH.out sz_In HON.out ?_; rw [HW5.out]))
  refine bodyPost_ret (v := .agg #[.int .u64 (x.m.qb : Int), .int .u64 (x.m.qn : Int), .int .i64 x.m.at_, .int .i64 x.m.fr, .int .i64 x.m.tq, .int .u64 (x.n : Int), .slice p1 x.h.length r1, .slice p2 x.r.length r2, .bool x.d]) (by simp only [results, Try.results37]; simp [asAddr, Act.put, HLD.out]) rfl ?_
  exact ⟨_, _, _, _, rfl, M0.out, HBF.out⟩
end Go.Proofs.Ytcmiphgeakdonaa
