/- Rows held against each other; new memory. -/
import Derived.Test.YtcmiphgeakdonaaAa
namespace Go.Proofs.Ytcmiphgeakdonaa
open Go.Shelf Go.RowKit Go.Lib Go.Sort
set_option linter.unusedVariables false
set_option linter.unusedSimpArgs false
attribute [local go_sem ↓] Go.wp_at_zero Go.wp_at_succ
theorem run_val_eq (k n : Int) (b : Bool) (s : ByteArray) (w : World) :
    (binOp .neq 126 (.agg #[.int .u8 k, .bool b, .int .i64 n, .string s]) (.agg #[.int .u8 k, .bool b, .int .i64 n, .string s])).run Try.prog w = .ok (.bool false) w := by
  have h : (binOp .eql 126 (.agg #[.int .u8 k, .bool b, .int .i64 n, .string s]) (.agg #[.int .u8 k, .bool b, .int .i64 n, .string s])).run Try.prog w = .ok (.bool true) w := by
    have hS : Try.prog.underlying 126 = some (.struct (Try.prog.fieldsOf 126)) := by kernel_rfl
    have hp : Try.prog.stoodInHeld 126 = false := by kernel_rfl
    have u9 := Try.underlying9; have a9 := Try.isAgg9; have z9 := Try.sizeOf9
    have u1 := Try.underlying101; have a1 := Try.isAgg101; have z1 := Try.sizeOf101
    have u2 := Try.underlying2; have a2 := Try.isAgg2; have z2 := Try.sizeOf2
    have u4 := Try.underlying4; have a4 := Try.isAgg4; have z4 := Try.sizeOf4
    rw [run_eql_struct, show (10000 : Nat) = 9999 + 1 from rfl, run_equalIn_struct w 9999 126 _ _ hS hp]
    simp only [Program.fieldsOf, Try.underlying126]
    go_simp
  simp only [binOp, Sem.run_bind] at h ⊢
  generalize (Op.equal 126 (.agg #[.int .u8 k, .bool b, .int .i64 n, .string s]) (.agg #[.int .u8 k, .bool b, .int .i64 n, .string s])).run Try.prog w = r at h ⊢
  cases r <;> simp_all
/-- A list of which K is kept, later. -/
theorem ListIs.later {α : Type} {rel : Rel α} (hm : Mono rel) {size bytes : Nat} {K : Nat → Prop} {W W' : World} {v : Value} {xs : List α} (h : ListIs rel size bytes K W v xs) (hK : ∀ b, K b → b < W.heap.size) (hb : Below W.heap.size W W') : ListIs rel size bytes K W' v xs := h.mono hm (fun _ h => h) (kept_of hK hb)
set_option maxRecDepth 100000 in
set_option maxHeartbeats 2000000 in
theorem row_eq (va vb : Value) (xs : List Val) (K L : Nat → Prop) (w : World) (h : ListIs rVal 4 32 K w va xs) (h' : ListIs rVal 4 32 L w vb xs) (hK : ∀ b, K b → b < w.heap.size) (hL : ∀ b, L b → b < w.heap.size) :
    Calls Try.prog 47 #[va, vb] w fun e w' => e = .returned (.bool true) ∧ Below w.heap.size w w' := by
  obtain ⟨p, c, rfl, hby, hp⟩ := h
  obtain ⟨q, d, rfl, _, hq⟩ := h'
  have HP : Hid _ := hp
  have HQ : Hid _ := hq
  have t3 : ((xs.length : Int) != (xs.length : Int)) = false := by simp
  have HKK : Hid (∀ b, K b → b < w.heap.size) := hK
  have HLL : Hid (∀ b, L b → b < w.heap.size) := hL
  clear hp hq hK hL
  go_enter Try.func47, Try.ntmps47
  go_wp2_with fail
  go_loopg [13] xs.length (fun gf s30 wx => ∃ i : Nat, s30 = .int .i64 i ∧ i ≤ xs.length ∧ xs.length ≤ i + gf ∧ Hid (Below w.heap.size w wx))
  case atStart => exact ⟨0, rfl, by omega, by omega, Below.refl _ _⟩
  case round =>
    obtain ⟨i, rfl, hi1, hgf, HB⟩ := hrel
    by_cases hi : i < xs.length
    · obtain ⟨g', rfl⟩ : ∃ g', gk = g' + 1 := ⟨gk - 1, by omega⟩
      obtain ⟨b, o, rfl, hKb, hc⟩ := HP.out (by omega)
      obtain ⟨b', o', rfl, hLb, hc'⟩ := HQ.out (by omega)
      obtain ⟨cs, hcl, hcell, hrel1⟩ := hc i hi
      obtain ⟨ds, hdl, hdell, hrel2⟩ := hc' i hi
      obtain ⟨x, hx⟩ : ∃ x, xs[i] = x := ⟨_, rfl⟩
      rw [hx] at hrel1 hrel2
      have hcs := hrel1.1
      have hds := hrel2.1
      have hcell2 : ∀ j u, cs[j]? = some u → wr.cell? ⟨b, o + i * 4 + j, none⟩ = some u := fun j u hj => by rw [HB.out.cell (p := ⟨b, _, none⟩) (HKK.out _ hKb)]; exact hcell j u hj
      have hdell2 : ∀ j u, ds[j]? = some u → wr.cell? ⟨b', o' + i * 4 + j, none⟩ = some u := fun j u hj => by rw [HB.out.cell (p := ⟨b', _, none⟩) (HLL.out _ hLb)]; exact hdell j u hj
      rw [hcs] at hcell2
      rw [hds] at hdell2
      have c0 := hcell2 0 _ rfl
      have e0 := hdell2 0 _ rfl
      have c1 := hcell2 1 _ rfl
      have e1 := hdell2 1 _ rfl
      have c2 := hcell2 2 _ rfl
      have e2 := hdell2 2 _ rfl
      have c3 := hcell2 3 _ rfl
      have e3 := hdell2 3 _ rfl
      simp only [Nat.add_zero, Nat.mul_one] at c0 e0
      have z0 : (0 : Int) ≤ (i : Int) := by omega
      have z1 : (i : Int) < (xs.length : Int) := by omega
      have hbw := HB.out
      clear hc hc' hcell hdell hcell2 hdell2 hrel1 hrel2 hx HB hcl hdl hKb hLb hcs hds
      have hne := run_val_eq x.k x.n x.b x.s
      go_wp2_with fail
      go_quiet (fail)
      go_wp2_with fail
      go_roundg g'
      case measure => omega
      case rel => exact ⟨i + 1, by go_num, by omega, by omega, below_drewN hbw _⟩
    · have z1 : ¬ (i : Int) < (xs.length : Int) := by omega
      have HB2 : Hid (Below w.heap.size w wr) := HB.out
      clear HB
      go_wp2_with fail
      go_ret
      exact ⟨rfl, HB2.out⟩
/-- A world behind another one, all of whose blocks are as they were. -/
structure LaterS (B : Nat) (W0 : World) where
  w : World
  h : Below B W0 w
abbrev laterInh (w : World) : Inhabited (LaterS w.heap.size w) := ⟨⟨w, Below.refl _ _⟩⟩
theorem wp_region_laterS {P : Program} {id : Nat} {Q : Exit → Act → World → Prop} {a : Act} {w : World} {l : List Oper} (hm : P.follows .mixedOrders = true) (hB : Region.lexB .any l.toArray = true)
    (h : wpQuiet P l.toArray (fun w' => ∃ p : LaterS w.heap.size w, w' = p.w) (fun a' => ∀ w', (∃ p : LaterS w.heap.size w, w' = p.w) → Q .normal a' w') l a) : (Code.region id l.toArray true).wp P Q a w :=
  wp_region_quiet (C := fun w' => ∃ p : LaterS w.heap.size w, w' = p.w) hm hB ⟨⟨w.drew, (Below.refl _ _).drew⟩, rfl⟩ (by simpa using h)
theorem calls_laterS {P : Program} {f : FuncId} {args : Array Value} {W0 : World} {p : LaterS W0.heap.size W0} {v : Value}
    (h : Calls P f args p.w fun e w' => e = .returned v ∧ Below p.w.heap.size p.w w') : Calls P f args p.w fun e w'' => e = .returned v ∧ ∃ p' : LaterS W0.heap.size W0, w'' = p'.w :=
  h.mono fun _ _ ⟨he, hb⟩ => ⟨he, ⟨_, p.h.trans (hb.mono p.h.size)⟩, rfl⟩
theorem mixedOnS : Try.prog.follows .mixedOrders = true := by kernel_rfl
set_option maxRecDepth 100000 in
set_option maxHeartbeats 2000000 in
theorem rows_eq (va vb : Value) (xs : List (List Val)) (K L : Nat → Prop) (w : World) (h : ListIs rRow 1 24 K w va xs) (h' : ListIs rRow 1 24 L w vb xs) (hK : ∀ b, K b → b < w.heap.size) (hL : ∀ b, L b → b < w.heap.size) :
    Calls Try.prog 28 #[va, vb] w fun e w' => e = .returned (.bool true) ∧ Below w.heap.size w w' := by
  obtain ⟨p, c, rfl, hby, hp⟩ := h
  obtain ⟨q, d, rfl, _, hq⟩ := h'
  have HP : Hid _ := hp
  have HQ : Hid _ := hq
  have t3 : ((xs.length : Int) != (xs.length : Int)) = false := by simp
  have HKK : Hid (∀ b, K b → b < w.heap.size) := hK
  have HLL : Hid (∀ b, L b → b < w.heap.size) := hL
  clear hp hq hK hL
  go_enter Try.func28, Try.ntmps28
  go_wp2_with fail
  go_loopg [13] xs.length (fun gf s30 wx => ∃ i : Nat, s30 = .int .i64 i ∧ i ≤ xs.length ∧ xs.length ≤ i + gf ∧ Hid (Below w.heap.size w wx))
  case atStart => exact ⟨0, rfl, by omega, by omega, Below.refl _ _⟩
  case round =>
    obtain ⟨i, rfl, hi1, hgf, HB⟩ := hrel
    by_cases hi : i < xs.length
    · obtain ⟨g', rfl⟩ : ∃ g', gk = g' + 1 := ⟨gk - 1, by omega⟩
      obtain ⟨b, o, rfl, hKb, hc⟩ := HP.out (by omega)
      obtain ⟨b', o', rfl, hLb, hc'⟩ := HQ.out (by omega)
      obtain ⟨cs, hcl, hcell, hrel1⟩ := hc i hi
      obtain ⟨ds, hdl, hdell, hrel2⟩ := hc' i hi
      obtain ⟨x, hx⟩ : ∃ x, xs[i] = x := ⟨_, rfl⟩
      rw [hx] at hrel1 hrel2
      have hbw := HB.out
      have hkr : ∀ b, K b → b < wr.heap.size := fun b hb => Nat.lt_of_lt_of_le (HKK.out b hb) hbw.size
      have hlr : ∀ b, L b → b < wr.heap.size := fun b hb => Nat.lt_of_lt_of_le (HLL.out b hb) hbw.size
      have hcell2 : ∀ (p : LaterS wr.heap.size wr) j u, cs[j]? = some u → p.w.cell? ⟨b, o + i * 1 + j, none⟩ = some u := fun p j u hj => by
        rw [p.h.cell (p := ⟨b, _, none⟩) (hkr _ hKb), hbw.cell (p := ⟨b, _, none⟩) (HKK.out _ hKb)]; exact hcell j u hj
      have hdell2 : ∀ (p : LaterS wr.heap.size wr) j u, ds[j]? = some u → p.w.cell? ⟨b', o' + i * 1 + j, none⟩ = some u := fun p j u hj => by
        rw [p.h.cell (p := ⟨b', _, none⟩) (hlr _ hLb), hbw.cell (p := ⟨b', _, none⟩) (HLL.out _ hLb)]; exact hdell j u hj
      obtain ⟨u1, hcs, hl1⟩ := hrel1
      obtain ⟨u2, hds, hl2⟩ := hrel2
      rw [hcs] at hcell2
      rw [hds] at hdell2
      clear hcs hds
      have cS : Hid (∀ p : LaterS wr.heap.size wr, Calls Try.prog 47 #[u1, u2] p.w fun e w' => e = .returned (.bool true) ∧ Below p.w.heap.size p.w w') := fun p =>
        row_eq u1 u2 x K L p.w (ListIs.later mVal hl1 HKK.out (hbw.trans (p.h.mono hbw.size))) (ListIs.later mVal hl2 HLL.out (hbw.trans (p.h.mono hbw.size))) (fun b hb => Nat.lt_of_lt_of_le (hkr b hb) p.h.size) (fun b hb => Nat.lt_of_lt_of_le (hlr b hb) p.h.size)
      obtain ⟨p1, d1, rfl, _, _⟩ := hl1
      obtain ⟨p2, d2, rfl, _, _⟩ := hl2
      have c0 := fun p => hcell2 p 0 _ rfl
      have e0 := fun p => hdell2 p 0 _ rfl
      simp only [Nat.add_zero, Nat.mul_one] at c0 e0
      have z0 : (0 : Int) ≤ (i : Int) := by omega
      have z1 : (i : Int) < (xs.length : Int) := by omega
      clear hc hc' hcell hdell hcell2 hdell2 hx HB hcl hdl hKb hLb hkr hlr
      go_wp2_with fail
      have inhL := laterInh
      refine wp_region_laterS mixedOnS (by kernel_rfl) ?_
      repeat (go_big_quiet_step ((go_at_call 47; exact calls_laterS (cS.out _))))
      refine wpQuiet_nil ?_
      intro w2 hw'
      obtain ⟨⟨wq, hwq⟩, hw''⟩ := hw'
      subst hw''
      go_wp2_with fail
      go_roundg g'
      case measure => omega
      case rel => exact ⟨i + 1, by go_num, by omega, by omega, hbw.trans (hwq.mono hbw.size)⟩
    · have z1 : ¬ (i : Int) < (xs.length : Int) := by omega
      have HB2 : Hid (Below w.heap.size w wr) := HB.out
      clear HB
      go_wp2_with fail
      go_ret
      exact ⟨rfl, HB2.out⟩
theorem cell_of_row {W : World} {g k : Nat} {cur : Array Value} {t : TypeId} (hg : W.heap[g]? = some (.cells cur t (0, 0))) {v : Value} (h : cur[k]? = some v) : W.cell? ⟨g, k, none⟩ = some v := by simp [World.cell?, hg, h]
theorem two_belowS (w : World) (a b : Obj) : Below w.heap.size w ((w.alloc a).alloc b) :=
  ((Below.refl _ _).alloc (Nat.le_refl _) a).alloc (by simp) b
theorem two_boxes (w : World) (a b : Array Value) (t : TypeId) : ∃ W0, (w.alloc (.cells a t)).alloc (.cells b t) = W0 ∧ Below w.heap.size w W0 ∧ W0.heap.size = w.heap.size + 2 ∧
    W0.heap[w.heap.size]? = some (.cells a t (0, 0)) ∧ W0.heap[w.heap.size + 1]? = some (.cells b t (0, 0)) := by
  refine ⟨_, rfl, two_belowS _ _ _, by simp, by rw [heap_alloc_old _ _ (by simp)]; exact heap_alloc_new w _, ?_⟩
  have := heap_alloc_new (w.alloc (.cells a t)) (.cells b t)
  simpa using this
theorem part_of {cells cs : List Value} {j n size : Nat} (hc : cells.length = n * size) (hcs : cs.length = size) (hj : j < n) : ((cells ++ cs).drop (j * size)).take size = (cells.drop (j * size)).take size := by
  have h1 : j * size + size ≤ n * size := by
    have := Nat.mul_le_mul_right size (show j + 1 ≤ n by omega)
    rwa [Nat.add_mul, Nat.one_mul] at this
  rw [List.drop_append_of_le_length (by omega), List.take_append_of_le_length (by rw [List.length_drop]; omega)]
/-- All blocks from B on. -/
def From (B : Nat) (W : World) : Nat → Prop := fun b => B ≤ b ∧ b < W.heap.size
theorem From.lt {B : Nat} {W : World} : ∀ b, From B W b → b < W.heap.size := fun b h => h.2
/-- A list that is being made: a row of one's own whose parts lie elsewhere, in new memory too. -/
def OwnR {α : Type} (rel : Rel α) (size : Nat) (te : TypeId) (base : Nat) (W : World) (u : Value) (xs : List α) : Prop :=
  ∃ (K : Nat → Prop) (cells : List Value), (∀ b, K b → base ≤ b ∧ b < W.heap.size ∧ u.ownBlock ≠ some b) ∧ W.ownsRow base te size u xs.length cells ∧ ∀ j (h : j < xs.length), rel K W ((cells.drop (j * size)).take size) xs[j]
theorem OwnR.keep {α : Type} {rel : Rel α} (hm : Mono rel) {size : Nat} {te : TypeId} {base : Nat} {W W' : World} {u : Value} {xs : List α} (h : OwnR rel size te base W u xs) (hb : Below W.heap.size W W') : OwnR rel size te base W' u xs := by
  obtain ⟨K, cells, hK, ho, hr⟩ := h
  refine ⟨K, cells, fun b h => ⟨(hK b h).1, Nat.lt_of_lt_of_le (hK b h).2.1 hb.size, (hK b h).2.2⟩, ?_, fun j hj => hm _ _ _ _ _ _ (fun _ h => h) (kept_of (fun b h => (hK b h).2.1) hb) (hr j hj)⟩
  obtain ⟨hl, ⟨rfl, hn⟩ | ⟨g, cap, cur, rfl, h1, hg, r⟩⟩ := ho
  · exact ⟨hl, .inl ⟨rfl, hn⟩⟩
  · exact ⟨hl, .inr ⟨g, cap, cur, rfl, h1, by rw [hb.block _ (Array.getElem?_eq_some_iff.1 hg).1]; exact hg, r⟩⟩
theorem OwnR.list {α : Type} {rel : Rel α} (hm : Mono rel) {size bytes : Nat} {te : TypeId} {base : Nat} {W : World} {u : Value} {xs : List α} (h : OwnR rel size te base W u xs) (hb : xs.length * bytes ≤ 140737488355328) : ∃ p c, u = .slice p xs.length c ∧ ListIs rel size bytes (From base W) W (.slice p xs.length c) xs := by
  obtain ⟨K, cells, hK, ho, hr⟩ := h
  have hr2 : ∀ j (h : j < xs.length), rel (From base W) W ((cells.drop (j * size)).take size) xs[j] := fun j hj => hm _ _ _ _ _ _ (fun b h => ⟨(hK b h).1, (hK b h).2.1⟩) ⟨rfl, rfl, rfl, Nat.le_refl _, fun _ _ => rfl⟩ (hr j hj)
  obtain ⟨hl, ⟨rfl, hn⟩ | ⟨g, cap, cur, rfl, hbg, hg, hnc, hcm, hcs, htake⟩⟩ := ho
  · exact ⟨none, 0, by rw [hn], none, 0, by rw [hn], ⟨hb, by omega⟩, fun h => by omega⟩
  · refine ⟨_, cap, rfl, _, cap, rfl, ⟨hb, hnc⟩, fun _ => ⟨g, 0, rfl, ⟨hbg, (Array.getElem?_eq_some_iff.1 hg).1⟩, fun j hj => ⟨_, ?_, fun i u hu => ?_, hr2 j hj⟩⟩⟩
    · have h1 : j * size + size ≤ xs.length * size := by
        have := Nat.mul_le_mul_right size (show j + 1 ≤ xs.length by omega)
        rwa [Nat.add_mul, Nat.one_mul] at this
      rw [List.length_take, List.length_drop, hl]; omega
    · have hi : i < size := by
        have := (List.getElem?_eq_some_iff.1 hu).1
        rw [List.length_take] at this; omega
      rw [List.getElem?_take_of_lt hi, List.getElem?_drop, ← htake] at hu
      have hlt : j * size + i < xs.length * size := by
        have := Nat.mul_le_mul_right size (show j + 1 ≤ xs.length by omega)
        rw [Nat.add_mul, Nat.one_mul] at this; omega
      rw [List.getElem?_take_of_lt hlt] at hu
      rw [Nat.zero_add]
      exact cell_of_row hg (by simpa using hu)
theorem addr_add (b o k : Nat) : (⟨b, o, none⟩ : Addr).add k = ⟨b, o + k, none⟩ := by unfold Addr.add; split <;> simp_all
/-- One part more. -/
theorem OwnR.push {α : Type} {rel : Rel α} (hm : Mono rel) {size bytes : Nat} {ts te : TypeId} {i0 : TypeInfo} {z : Value} (hu : Try.prog.underlying ts = some (.slice te)) (hi : Try.prog.info? te = some i0) (hz : i0.zero = some z) (hs : i0.size = size) (hby : i0.bytes = bytes) (hzs : z.cells.size = size) (hs0 : 0 < size)
    {base : Nat} {X : World} {u : Value} {xs : List α} (h : OwnR rel size te base X u xs) (hbase : base ≤ X.heap.size) {cs : List Value} {x : α} {K2 : Nat → Prop} (hcs : cs.length = size) (hone : ∀ c ∈ cs, c.oneCell' = true) (hK2 : ∀ b, K2 b → base ≤ b ∧ b < X.heap.size ∧ u.ownBlock ≠ some b) (hr : rel K2 X cs x) (hbytes : (xs.length + 1) * bytes ≤ 140737488355328) (hmax : xs.length + 1 ≤ maxLen) :
    ∃ v' X2, (Builtin.append_ #[ts, ts] ts #[u, .slice (some ⟨X.heap.size, 0, none⟩) 1 1]).run Try.prog (X.alloc (.cells cs.toArray te)) = .ok v' X2 ∧ OwnR rel size te base X2 v' (xs ++ [x]) ∧ (∀ B w0, Below B w0 X → B ≤ base → Below B w0 X2) ∧ X.heap.size < X2.heap.size ∧ ∀ b, b < X.heap.size → u.ownBlock ≠ some b → X2.heap[b]? = X.heap[b]? := by
  obtain ⟨K, cells, hK, ho, hrr⟩ := h
  obtain ⟨X1, hX1⟩ : ∃ X1, X.alloc (.cells cs.toArray te) = X1 := ⟨_, rfl⟩
  have hb1 : Below X.heap.size X X1 := by rw [← hX1]; exact (Below.refl _ _).alloc (Nat.le_refl _) _
  have hs1 : X1.heap.size = X.heap.size + 1 := by rw [← hX1]; simp
  have hg1 : X1.heap[X.heap.size]? = some (.cells cs.toArray te (0, 0)) := by rw [← hX1]; exact heap_alloc_new X _
  rw [hX1]
  have ho1 : X1.ownsRow base te size u xs.length cells := by
    obtain ⟨hl, ⟨rfl, hn⟩ | ⟨g, cap, cur, rfl, h1, hg, r⟩⟩ := ho
    · exact ⟨hl, .inl ⟨rfl, hn⟩⟩
    · exact ⟨hl, .inr ⟨g, cap, cur, rfl, h1, by rw [hb1.block _ (Array.getElem?_eq_some_iff.1 hg).1]; exact hg, r⟩⟩
  have hnew : ∀ j v, cs[j]? = some v → X1.cell? ((⟨X.heap.size, 0, none⟩ : Addr).add j) = some v := fun j v hv => by
    rw [addr_add, Nat.zero_add]
    exact cell_of_row hg1 (by simpa using hv)
  obtain ⟨v', X2, e, ho2, h5, _, h6⟩ := run_append_own_at (P := Try.prog) X1 base ts ts te i0 z size bytes hu hi hz hs hby hzs hs0 u xs.length cells ho1 ⟨X.heap.size, 0, none⟩ 1 1 cs (by rw [hcs, Nat.one_mul]) hnew hone hmax hbytes (by omega)
  have hsz := h5.size
  have hKeep : ∀ (Q : Nat → Prop), (∀ b, Q b → b < X.heap.size ∧ u.ownBlock ≠ some b) → Kept Q X X2 := fun Q hQ => by
    refine ⟨h5.os.trans hb1.os, h5.tape.trans hb1.tape, h5.output.trans hb1.output, by omega, fun b hb => ?_⟩
    rw [h5.block b (by have := (hQ b hb).1; omega) (fun e => (hQ b hb).2 e.symm)]
    exact hb1.block b (hQ b hb).1
  refine ⟨v', X2, e, ⟨fun b => K b ∨ K2 b, cells ++ cs, fun b hb => ?_, by rw [List.length_append]; exact ho2, fun j hj => ?_⟩, fun B w0 hb hB => ?_, by omega, fun b h1 h2 => (h5.block b (by omega) (fun e => h2 e.symm)).trans (hb1.block b h1)⟩
  · have h3 : base ≤ b ∧ b < X.heap.size ∧ u.ownBlock ≠ some b := hb.elim (hK b) (hK2 b)
    refine ⟨h3.1, by omega, fun e => ?_⟩
    rcases h6 with h6 | h6
    · rw [h6] at e; exact h3.2.2 e
    · rw [h6] at e; simp only [Option.some.injEq] at e; omega
  · by_cases hjn : j < xs.length
    · rw [part_of ho.1 hcs hjn, List.getElem_append_left hjn]
      exact hm _ _ _ _ _ _ (fun _ h => .inl h) (hKeep K (fun b h => ⟨(hK b h).2.1, (hK b h).2.2⟩)) (hrr j hjn)
    · have e2 : j = xs.length := by simp at hj; omega
      subst e2
      have hl := ho.1
      rw [List.drop_append_of_le_length (by omega), List.drop_of_length_le (by omega), List.nil_append, List.take_of_length_le (by omega), List.getElem_append_right (Nat.le_refl _)]
      simp only [Nat.sub_self, List.getElem_cons_zero]
      exact hm _ _ _ _ _ _ (fun _ h => .inr h) (hKeep K2 (fun b h => ⟨(hK2 b h).2.1, (hK2 b h).2.2⟩)) hr
  · exact Below.grown (hb.trans (hb1.mono (Nat.le_trans hB hbase))) h5 (by omega) (fun j hj => by have := (ho1.lt _ hj).1; omega)
def CpP {α : Type} (rel : Rel α) (size bytes : Nat) (xs : List α) (w : World) (e : Ending) (w' : World) : Prop :=
  ∃ p c, e = .returned (.slice p xs.length c) ∧ ListIs rel size bytes (From w.heap.size w') w' (.slice p xs.length c) xs ∧ Below w.heap.size w w'
def Two (t : TypeId) (cl : List Value) (w W : World) : Prop :=
  W.heap[w.heap.size]? = some (.cells cl.toArray t (0, 0)) ∧ (∃ z : Array Value, z.size = cl.length ∧ W.heap[w.heap.size + 1]? = some (.cells z t (0, 0))) ∧ Below w.heap.size w W
theorem Two.start (w : World) (t : TypeId) (a z : Array Value) (h : z.size = a.size) : ∃ W0, (w.alloc (.cells a t)).alloc (.cells z t) = W0 ∧ Two t a.toList w W0 ∧ W0.heap.size = w.heap.size + 2 := by
  obtain ⟨W0, h1, h2, h3, h4, h5⟩ := two_boxes w a z t
  exact ⟨W0, h1, ⟨by simpa using h4, ⟨z, by simpa using h, h5⟩, h2⟩, h3⟩
theorem Two.lt {t : TypeId} {cl : List Value} {w W : World} (h : Two t cl w W) : w.heap.size + 2 ≤ W.heap.size := by
  obtain ⟨h1, ⟨z, _, h2⟩, _⟩ := h
  have := (Array.getElem?_eq_some_iff.1 h2).1
  omega
theorem Two.call {t : TypeId} {cl : List Value} {w W W' : World} (h : Two t cl w W) (hb : Below W.heap.size W W') : Two t cl w W' := by
  have hlt := h.lt
  obtain ⟨h1, ⟨z, hz, h2⟩, h3⟩ := h
  exact ⟨by rw [hb.block _ (by omega)]; exact h1, ⟨z, hz, by rw [hb.block _ (by omega)]; exact h2⟩, h3.trans (hb.mono h3.size)⟩
theorem Two.cell {t : TypeId} {cl : List Value} {w W : World} (h : Two t cl w W) {k : Nat} {v : Value} (hk : cl[k]? = some v) : W.cell? ⟨w.heap.size, k, none⟩ = some v := cell_of_row h.1 (by simpa using hk)
theorem Two.put {t : TypeId} {cl : List Value} {w W : World} (h : Two t cl w W) {k : Nat} (hk : k < cl.length) (v : Value) :
    ∃ W', W.setCell ⟨w.heap.size, k, none⟩ v = W' ∧ W.frozen? ⟨w.heap.size, k, none⟩ = false ∧ Two t (cl.set k v) w W' ∧ W'.heap.size = W.heap.size ∧ Kept (fun b => w.heap.size + 2 ≤ b) W W' := by
  obtain ⟨h1, ⟨z, hz, h2⟩, h3⟩ := h
  obtain ⟨a1, a2, a3, a4, a5⟩ := setCell_any W w.heap.size k v
  refine ⟨_, rfl, frozen_zero h1 k, ⟨?_, ⟨z, by simpa using hz, by rw [a5 _ (by omega)]; exact h2⟩, ⟨a2.trans h3.os, a3.trans h3.tape, a4.trans h3.output, by have := h3.size; omega, fun j hj => by rw [a5 j (by omega)]; exact h3.block j hj⟩⟩, a1, ⟨a2, a3, a4, by omega, fun b hb => a5 b (by omega)⟩⟩
  rw [heap_setCell_same W w.heap.size k cl.toArray t v h1]
  simp [List.setIfInBounds_toArray]
theorem Two.ret {t : TypeId} {cl : List Value} {w W : World} {d : TypeDesc} (h : Two t cl w W) (hu : Try.prog.underlying t = some d) (hd : d.isRow = true) (hi : (Try.prog.info? t).map (·.size) = some cl.length) :
    W.rangeAt w.heap.size 0 cl ∧ W.there (w.heap.size + 1) 0 cl.toArray.size ∧ ∃ W', W.setCells (w.heap.size + 1) 0 cl.toArray.toList = W' ∧ (loadVar t ⟨w.heap.size + 1, 0, none⟩).run Try.prog W' = .ok (.agg cl.toArray) W' ∧ Below w.heap.size w W' ∧ W'.heap.size = W.heap.size ∧ Kept (fun b => w.heap.size + 2 ≤ b) W W' := by
  obtain ⟨h1, ⟨z, hz, h2⟩, h3⟩ := h
  have ht : W.there (w.heap.size + 1) 0 cl.length := fun j hj => by
    rw [Nat.zero_add]
    refine ⟨?_, frozen_zero h2 j⟩
    rw [cellR h2 (Array.getElem?_eq_getElem (by omega : j < z.size))]
    rfl
  obtain ⟨a1, a2, a3, a4, a5⟩ := setCells_any (w.heap.size + 1) cl 0 W
  rw [show cl.toArray.toList = cl by simp]
  refine ⟨fun j v hv => ?_, by simpa using ht, _, rfl, run_loadVar_mid _ _ 0 t cl _ (World.rangeAt_setCells_same W (w.heap.size + 1) 0 cl ht) hu hd hi, ⟨a2.trans h3.os, a3.trans h3.tape, a4.trans h3.output, by have := h3.size; omega, fun j hj => by rw [a5 j (by omega)]; exact h3.block j hj⟩, a1, ⟨a2, a3, a4, by omega, fun b hb => a5 b (by omega)⟩⟩
  rw [Nat.zero_add]
  exact cell_of_row h1 (by simpa using hv)
theorem ListIs.kept {α : Type} {rel : Rel α} (hm : Mono rel) {size bytes B : Nat} {W W' : World} {v : Value} {xs : List α} (h : ListIs rel size bytes (From B W) W v xs) (hk : Kept (fun b => B ≤ b) W W') : ListIs rel size bytes (From B W') W' v xs :=
  h.mono hm (fun b hb => ⟨hb.1, Nat.lt_of_lt_of_le hb.2 hk.size⟩) (hk.less fun b hb => hb.1)
theorem ListIs.less {α : Type} {rel : Rel α} (hm : Mono rel) {size bytes B C : Nat} {W : World} {v : Value} {xs : List α} (h : ListIs rel size bytes (From B W) W v xs) (hb : C ≤ B) : ListIs rel size bytes (From C W) W v xs :=
  h.mono hm (fun b h => ⟨by have := h.1; omega, h.2⟩) ⟨rfl, rfl, rfl, Nat.le_refl _, fun _ _ => rfl⟩
theorem Two.mid {t : TypeId} {w : World} : ∀ (cs : List Value) {cl : List Value} {W : World} (h : Two t cl w W) (lo : Nat) (hl : lo + cs.length ≤ cl.length),
    ∃ W' cl', W.setCells w.heap.size lo cs = W' ∧ Two t cl' w W' ∧ cl'.length = cl.length ∧ (∀ (j : Nat) (u : Value), cs[j]? = some u → cl'[lo + j]? = some u) ∧ (∀ k, k < lo ∨ lo + cs.length ≤ k → cl'[k]? = cl[k]?) ∧ W'.heap.size = W.heap.size ∧ Kept (fun b => w.heap.size + 2 ≤ b) W W'
  | [], cl, W, h, lo, hl => ⟨W, cl, rfl, h, rfl, fun j u hu => by simp at hu, fun k _ => rfl, rfl, Kept.refl _ _⟩
  | v :: vs, cl, W, h, lo, hl => by
    simp only [List.length_cons] at hl
    obtain ⟨W1, hW1, _, t1, s1, k1⟩ := h.put (k := lo) (by omega) v
    obtain ⟨W2, cl2, hW2, t2, l2, c2, o2, s2, k2⟩ := Two.mid vs t1 (lo + 1) (by simp; omega)
    refine ⟨W2, cl2, ?_, t2, by rw [l2]; simp, fun j u hu => ?_, fun k hk => ?_, by omega, k1.trans k2⟩
    · rw [← hW2, ← hW1]; rfl
    · cases j with
      | zero =>
        simp only [List.getElem?_cons_zero, Option.some.injEq] at hu
        rw [Nat.add_zero, o2 lo (.inl (by omega)), List.getElem?_set_self (by omega), hu]
      | succ j =>
        simp only [List.getElem?_cons_succ] at hu
        have := c2 j u hu
        rwa [show lo + 1 + j = lo + (j + 1) by omega] at this
    · simp only [List.length_cons] at hk
      rw [o2 k (by omega), List.getElem?_set_ne (by omega)]
theorem Two.there {t : TypeId} {cl : List Value} {w W : World} (h : Two t cl w W) (lo n : Nat) (hl : lo + n ≤ cl.length) : W.there w.heap.size lo n := fun j hj => by
  refine ⟨?_, frozen_zero h.1 _⟩
  rw [cellR h.1 (by simpa using List.getElem?_eq_getElem (by omega : lo + j < cl.length))]
  rfl
theorem box_new (W : World) (t : TypeId) (z : Array Value) (cl : List Value) (hl : z.size = cl.length) : ∃ WA, W.alloc (.cells z t) = WA ∧ WA.there W.heap.size 0 cl.toArray.size ∧ ∃ WS, WA.setCells W.heap.size 0 cl.toArray.toList = WS ∧ WS.rangeAt W.heap.size 0 cl ∧ WS.heap.size = W.heap.size + 1 ∧ Below W.heap.size W WS ∧ ∀ V, Below WS.heap.size WS V → V.rangeAt W.heap.size 0 cl := by
  refine ⟨_, rfl, ?_⟩
  have hg : (W.alloc (.cells z t)).heap[W.heap.size]? = some (.cells z t (0, 0)) := heap_alloc_new W _
  have hB : Below W.heap.size W (W.alloc (.cells z t)) := (Below.refl _ _).alloc (Nat.le_refl _) _
  have ht : (W.alloc (.cells z t)).there W.heap.size 0 cl.length := fun j hj => by
    rw [Nat.zero_add]
    refine ⟨?_, frozen_zero hg j⟩
    rw [cellR hg (Array.getElem?_eq_getElem (by omega : j < z.size))]
    rfl
  obtain ⟨a1, a2, a3, a4, a5⟩ := setCells_any W.heap.size cl 0 (W.alloc (.cells z t))
  have hs : ((W.alloc (.cells z t)).setCells W.heap.size 0 cl).heap.size = W.heap.size + 1 := by rw [a1]; simp
  have hr := World.rangeAt_setCells_same (W.alloc (.cells z t)) W.heap.size 0 cl ht
  refine ⟨by simpa using ht, _, rfl, by simpa using hr, by simpa using hs, ?_, fun V hV => ?_⟩
  · rw [show cl.toArray.toList = cl by simp]
    exact ⟨a2.trans hB.os, a3.trans hB.tape, a4.trans hB.output, by omega, fun j hj => by rw [a5 j (by omega)]; exact hB.block j hj⟩
  · rw [show cl.toArray.toList = cl by simp] at hV
    intro j v hv
    rw [hV.cell (p := ⟨W.heap.size, _, none⟩) (by show W.heap.size < _; omega)]
    exact hr j v hv
theorem setCell_self {W : World} {g k : Nat} {cur : Array Value} {t : TypeId} {v : Value} (hg : W.heap[g]? = some (.cells cur t (0, 0))) (h : cur[k]? = some v) : W.setCell ⟨g, k, none⟩ v = W := by
  rw [setCell_eq_setRow W g k cur t (0, 0) v hg]
  have : cur.setIfInBounds k v = cur := by
    apply Array.ext_getElem?
    intro j
    by_cases e : k = j
    · subst e
      have hk : k < cur.size := (Array.getElem?_eq_some_iff.1 h).1
      rw [Array.getElem?_setIfInBounds_self_of_lt hk, h]
    · rw [Array.getElem?_setIfInBounds_ne e]
  rw [this]
  exact setRow_self W g cur t (0, 0) hg
/-- What a part's function makes: the part, in new memory. -/
def FreshC {α : Type} (rel : Rel α) (F : Nat) : Prop := ∀ (K : Nat → Prop) (W : World) (cs : List Value) (x : α), rel K W cs x → (∀ b, K b → b < W.heap.size) →
  Calls Try.prog F #[asV cs] W fun e w' => ∃ cs', e = .returned (asV cs') ∧ rel (From W.heap.size w') w' cs' x ∧ Below W.heap.size W w'
/-- .. and a list's, with the part's function as argument or without. -/
def FreshL {α : Type} (rel : Rel α) (size bytes F : Nat) (more : Array Value) : Prop := ∀ (K : Nat → Prop) (W : World) (v : Value) (xs : List α), ListIs rel size bytes K W v xs → (∀ b, K b → b < W.heap.size) →
  Calls Try.prog F (#[v] ++ more) W fun e w' => CpP rel size bytes xs W e w'
theorem OwnR.none {α : Type} {rel : Rel α} {size : Nat} {te : TypeId} {base : Nat} {W : World} {u : Value} (h : W.ownsRow base te size u 0 []) : OwnR rel size te base W u ([] : List α) :=
  ⟨fun _ => False, [], fun b h => h.elim, h, fun j h => by simp at h⟩
theorem inE_val : ∃ i0, Try.prog.info? 126 = some i0 ∧ i0.zero = some (.agg #[.int .u8 0, .bool false, .int .i64 0, .string ⟨#[]⟩]) ∧ i0.size = 4 ∧ i0.bytes = 32 := by
  have h1 : (Try.prog.info? 126).bind (·.zero) = some (.agg #[.int .u8 0, .bool false, .int .i64 0, .string ⟨#[]⟩]) := by kernel_rfl
  have h2 : (Try.prog.info? 126).map (·.size) = some 4 := by kernel_rfl
  have h3 : (Try.prog.info? 126).map (·.bytes) = some 32 := by kernel_rfl
  generalize Try.prog.info? 126 = i at *
  cases i with
  | none => cases h1
  | some i => exact ⟨i, rfl, h1, Option.some.inj h2, Option.some.inj h3⟩
set_option maxHeartbeats 4000000 in
set_option maxRecDepth 100000 in
theorem grow_val (n : Nat) (w : World) (hn : n * 32 ≤ 140737488355328) :
    Calls Try.prog 72 #[.slice none 0 0, .int .i64 n] w fun e w' => ∃ u, e = .returned u ∧ w'.ownsRow w.heap.size 126 4 u 0 [] ∧ Below w.heap.size w w' := by
  by_cases h0 : n = 0
  · subst h0
    go_enter Try.func72, Try.ntmps72
    go_wp2_with fail
    go_ret
    exact ⟨_, rfl, World.ownsRow_nil _ _ _ _, Below.refl _ _⟩
  · obtain ⟨i0, hi0, hz0, hz1, hz2⟩ := inE_val
    have hrz : ∀ ty, (Builtin.append_ #[95, 3] ty #[.slice none 0 0, .int .i64 n]).run Try.prog w = .ok (.slice (some ⟨w.heap.size, 0, none⟩) n (grownCap w n 0 126)) (w.drew.alloc (.cells (Builtin.zeroCells (Value.cells (.agg #[.int .u8 0, .bool false, .int .i64 0, .string ⟨#[]⟩])) n ++ Builtin.zeroCells (Value.cells (.agg #[.int .u8 0, .bool false, .int .i64 0, .string ⟨#[]⟩])) (grownCap w n 0 126 - n)) 126)) :=
      fun ty => run_append_nil_zeros w 95 3 ty 126 i0 _ .i64 .i64 Try.underlying95 Try.underlying3 hi0 hz0 n (by omega) (by omega) (by omega) (by rw [hz2]; omega)
    have hGn : n ≤ grownCap w n 0 126 := grownCap_ge w _ _ _
    have hGm : grownCap w n 0 126 ≤ maxLen := grownCap_le_maxLen w n 0 126 (by unfold maxLen; omega)
    obtain ⟨G, hG⟩ : ∃ G, G = grownCap w n 0 126 := ⟨_, rfl⟩
    rw [← hG] at hrz hGn hGm
    have hG63 : G ≤ 9223372036854775807 := by unfold maxLen at hGm; omega
    have HM : Hid (G ≤ maxLen) := hGm
    have h1 : ¬ ((n : Int) < 0) := by omega
    have h2 : (0 : Int) < (n : Int) := by omega
    clear hG hGm
    go_enter Try.func72, Try.ntmps72
    go_wp2_with (at_builtin; refine Lib.wpList_append_run _ rfl _ _ _ _ rfl _ _ rfl rfl _ _ (hrz _) ?_)
    all_goals (go_ret; refine ⟨_, rfl, ⟨rfl, .inr ⟨w.heap.size, G, _, rfl, Nat.le_refl _, heap_alloc_new w.drew _, Nat.zero_le _, HM.out, ?_, rfl⟩⟩, ?_⟩)
    all_goals (first
      | (exact (Below.refl _ _).drew.alloc (Nat.le_refl _) _)
      | (simp [Builtin.zeroCells, Value.cells]; omega))
theorem inE_row : ∃ i0, Try.prog.info? 96 = some i0 ∧ i0.zero = some (.slice none 0 0) ∧ i0.size = 1 ∧ i0.bytes = 24 := by
  have h1 : (Try.prog.info? 96).bind (·.zero) = some (.slice none 0 0) := by kernel_rfl
  have h2 : (Try.prog.info? 96).map (·.size) = some 1 := by kernel_rfl
  have h3 : (Try.prog.info? 96).map (·.bytes) = some 24 := by kernel_rfl
  generalize Try.prog.info? 96 = i at *
  cases i with
  | none => cases h1
  | some i => exact ⟨i, rfl, h1, Option.some.inj h2, Option.some.inj h3⟩
set_option maxHeartbeats 4000000 in
set_option maxRecDepth 100000 in
theorem grow_row (n : Nat) (w : World) (hn : n * 24 ≤ 140737488355328) :
    Calls Try.prog 64 #[.slice none 0 0, .int .i64 n] w fun e w' => ∃ u, e = .returned u ∧ w'.ownsRow w.heap.size 96 1 u 0 [] ∧ Below w.heap.size w w' := by
  by_cases h0 : n = 0
  · subst h0
    go_enter Try.func64, Try.ntmps64
    go_wp2_with fail
    go_ret
    exact ⟨_, rfl, World.ownsRow_nil _ _ _ _, Below.refl _ _⟩
  · obtain ⟨i0, hi0, hz0, hz1, hz2⟩ := inE_row
    have hrz : ∀ ty, (Builtin.append_ #[30, 3] ty #[.slice none 0 0, .int .i64 n]).run Try.prog w = .ok (.slice (some ⟨w.heap.size, 0, none⟩) n (grownCap w n 0 96)) (w.drew.alloc (.cells (Builtin.zeroCells (Value.cells (.slice none 0 0)) n ++ Builtin.zeroCells (Value.cells (.slice none 0 0)) (grownCap w n 0 96 - n)) 96)) :=
      fun ty => run_append_nil_zeros w 30 3 ty 96 i0 _ .i64 .i64 Try.underlying30 Try.underlying3 hi0 hz0 n (by omega) (by omega) (by omega) (by rw [hz2]; omega)
    have hGn : n ≤ grownCap w n 0 96 := grownCap_ge w _ _ _
    have hGm : grownCap w n 0 96 ≤ maxLen := grownCap_le_maxLen w n 0 96 (by unfold maxLen; omega)
    obtain ⟨G, hG⟩ : ∃ G, G = grownCap w n 0 96 := ⟨_, rfl⟩
    rw [← hG] at hrz hGn hGm
    have hG63 : G ≤ 9223372036854775807 := by unfold maxLen at hGm; omega
    have HM : Hid (G ≤ maxLen) := hGm
    have h1 : ¬ ((n : Int) < 0) := by omega
    have h2 : (0 : Int) < (n : Int) := by omega
    clear hG hGm
    go_enter Try.func64, Try.ntmps64
    go_wp2_with (at_builtin; refine Lib.wpList_append_run _ rfl _ _ _ _ rfl _ _ rfl rfl _ _ (hrz _) ?_)
    all_goals (go_ret; refine ⟨_, rfl, ⟨rfl, .inr ⟨w.heap.size, G, _, rfl, Nat.le_refl _, heap_alloc_new w.drew _, Nat.zero_le _, HM.out, ?_, rfl⟩⟩, ?_⟩)
    all_goals (first
      | (exact (Below.refl _ _).drew.alloc (Nat.le_refl _) _)
      | (simp [Builtin.zeroCells, Value.cells]; omega))
set_option maxRecDepth 100000 in
set_option maxHeartbeats 4000000 in
theorem each_val (hpart : FreshC rVal 66) : FreshL rVal 4 32 65 #[.func (.func 66) #[] #[]] := by
  intro K w v xs h hK
  show Calls Try.prog 65 #[v, .func (.func 66) #[] #[]] w _
  obtain ⟨p, c, rfl, hby, hp⟩ := h
  have HP : Hid (0 < xs.length → ∃ b o, p = some ⟨b, o, none⟩ ∧ K b ∧ ∀ (j : Nat) (h : j < xs.length), ∃ cs, cs.length = 4 ∧ (∀ (i : Nat) (u : Value), cs[i]? = some u → w.cell? ⟨b, o + j * 4 + i, none⟩ = some u) ∧ rVal K w cs xs[j]) := hp
  have HPT : Hid (FreshC rVal 66) := hpart
  have HKK : Hid (∀ b, K b → b < w.heap.size) := hK
  have HBY : Hid (xs.length * 32 ≤ 140737488355328) := hby.1
  have CG := hid (grow_val xs.length w hby.1)
  obtain ⟨j0, hj0, hj1, hj2, hj3⟩ := inE_val
  have hx63 : xs.length ≤ 140737488355328 := by omega
  clear hp hK hby hpart
  go_enter Try.func65, Try.ntmps65
  go_wp2_with fail
  refine CG.out.mono ?_
  rintro e w0 ⟨u0, rfl, ho0, hb0⟩
  have HJ : Hid (OwnR rVal 4 126 w.heap.size w0 u0 (xs.take 0)) := OwnR.none ho0
  have HB0 : Hid (Below w.heap.size w w0) := hb0
  clear ho0 hb0 CG
  go_wp2_with fail
  go_loopg [5, 13] xs.length (fun gf s3 s8 wx => ∃ (u : Value) (i : Nat), u = s3 ∧ s8 = .int .i64 i ∧ i ≤ xs.length ∧ xs.length ≤ i + gf ∧ Hid (OwnR rVal 4 126 w.heap.size wx u (xs.take i)) ∧ Hid (Below w.heap.size w wx))
  case atStart => exact ⟨_, 0, rfl, rfl, by omega, by omega, HJ, HB0⟩
  case round =>
    clear HJ HB0
    obtain ⟨u, i, rfl, rfl, hi1, hgf, HJ, HB⟩ := hrel
    by_cases hi : i < xs.length
    · obtain ⟨g', rfl⟩ : ∃ g', gk = g' + 1 := ⟨gk - 1, by omega⟩
      obtain ⟨b, o, rfl, hKb, hc⟩ := HP.out (by omega)
      obtain ⟨cs, hcl, hcell, hrel1⟩ := hc i hi
      have htk : xs.take (i + 1) = xs.take i ++ [xs[i]] := List.take_succ_eq_append_getElem hi
      obtain ⟨y, hy⟩ : ∃ y, xs[i] = y := ⟨_, rfl⟩
      rw [hy] at hrel1 htk
      have hbw := HB.out
      have hrw : rVal K wr cs y := mVal _ _ _ _ _ _ (fun _ h => h) (kept_of HKK.out hbw) hrel1
      obtain ⟨rfl, q1, q2, q3⟩ := id hrw
      have hra : ∀ (j : Nat) (u : Value), ([.int .u8 y.k, .bool y.b, .int .i64 y.n, .string y.s] : List Value)[j]? = some u → wr.cell? ⟨b, o + i * 4 + j, none⟩ = some u := fun j u hu => by
        rw [hbw.cell (p := ⟨b, _, none⟩) (HKK.out _ hKb)]
        exact hcell j u hu
      obtain ⟨WA, hWA, hth, WS, hWS, hrs, hss, hbs, hrl⟩ := box_new wr 126 #[.int .u8 0, .bool false, .int .i64 0, .string ⟨#[]⟩] [.int .u8 y.k, .bool y.b, .int .i64 y.n, .string y.s] rfl
      have hKW : ∀ b, K b → b < WS.heap.size := fun b hb => by have := HKK.out b hb; have := hbw.size; have := hbs.size; omega
      have CC := HPT.out K WS _ y (mVal _ _ _ _ _ _ (fun _ h => h) (kept_of (fun b hb => Nat.lt_of_lt_of_le (HKK.out b hb) hbw.size) hbs) hrw) hKW
      have HCC : Hid (Calls Try.prog 66 #[.agg #[.int .u8 y.k, .bool y.b, .int .i64 y.n, .string y.s]] WS fun e w' => ∃ cs', e = .returned (asV cs') ∧ rVal (From WS.heap.size w') w' cs' y ∧ Below WS.heap.size WS w') := CC
      have HBS : Hid (Below wr.heap.size wr WS) := hbs
      have HTK : Hid (xs.take (i + 1) = xs.take i ++ [y]) := htk
      have z0 : (0 : Int) ≤ (i : Int) := by omega
      have z1' : (i : Int) < (xs.length : Int) := by omega
      have HRA : Hid (wr.rangeAt b (o + i * 4) [.int .u8 y.k, .bool y.b, .int .i64 y.n, .string y.s]) := hra
      have HTH : Hid (WA.there wr.heap.size 0 4) := hth
      have HWS : Hid (WA.setCells wr.heap.size 0 (#[.int .u8 y.k, .bool y.b, .int .i64 y.n, .string y.s] : Array Value).toList = WS) := hWS
      have HRS : Hid (WS.rangeAt wr.heap.size 0 [.int .u8 y.k, .bool y.b, .int .i64 y.n, .string y.s]) := hrs
      have HON : Hid ((#[.int .u8 y.k, .bool y.b, .int .i64 y.n, .string y.s] : Array Value).all (·.oneCell') = true) := by show _ = _; simp [Value.oneCell']
      have SZ : Hid ((Try.prog.info? 126).map (·.size) = some 4) := by show _ = _; rw [hj0]; simp [hj2]
      clear CC hra hth hWS hrs hrl hbs htk hc hcell hy hKb hcl hbw hrel1 hrw q1 q2 q3 hKW hss
      go_wp2_with (first | (refine wpList_load_mid rfl 126 _ rfl b (o + i * 4) rfl _ _ HRA.out Try.underlying126 rfl SZ.out ?_) | (refine wpList_store_mid rfl 126 _ _ rfl wr.heap.size 0 #[.int .u8 y.k, .bool y.b, .int .i64 y.n, .string y.s] rfl rfl HTH.out SZ.out HON.out ?_; rw [HWS.out]) | (refine wpList_load_mid rfl 126 _ rfl wr.heap.size 0 rfl _ _ HRS.out Try.underlying126 rfl SZ.out ?_))
      refine HCC.out.mono ?_
      rintro e w3 ⟨cs3, rfl, hr3, hb3⟩
      obtain ⟨rfl, q1, q2, q3⟩ := id hr3
      have hB3 : Below wr.heap.size wr w3 := HBS.out.trans (hb3.mono HBS.out.size)
      have hJX := HJ.out.keep mVal hB3
      have hlen : (xs.take i).length = i := by simp; omega
      have hmx : i + 1 ≤ maxLen := by have := HBY.out; unfold maxLen; omega
      have hb80 : (i + 1) * 32 ≤ 140737488355328 := by have := HBY.out; omega
      obtain ⟨v', X2, e2, hJ2, hb2, hs2⟩ := OwnR.push mVal Try.underlying95 hj0 hj1 hj2 hj3 rfl (by omega) hJX (Nat.le_trans HB.out.size hB3.size) (cs := [.int .u8 y.k, .bool y.b, .int .i64 y.n, .string y.s]) (x := y) (K2 := From WS.heap.size w3) rfl (fun c hc => by simp at hc; rcases hc with rfl | rfl | rfl | rfl <;> rfl)
        (fun b hb => ⟨by have := hb.1; have := HB.out.size; have := HBS.out.size; omega, hb.2, fun e => by obtain ⟨_, _, _, ho, _⟩ := HJ.out; have := (ho.lt _ e).2; have := hb.1; have := HBS.out.size; omega⟩) hr3 (by rw [hlen]; exact hb80) (by rw [hlen]; exact hmx)
      have HJ2 : Hid (OwnR rVal 4 126 w.heap.size X2 v' (xs.take (i + 1))) := by rw [HTK.out]; exact hJ2
      have HB2 : Hid (Below w.heap.size w X2) := hb2 _ _ (HB.out.trans (hB3.mono HB.out.size)) (Nat.le_refl _)
      clear hJ2 hb2 hs2 hJX hlen hmx hb80 hB3 hr3 hb3 q1 q2 q3 HJ HB
      unfold asV
      go_wp2_with (at_builtin; refine Lib.wpList_append_run _ rfl _ _ _ _ rfl u (.slice (some ⟨w3.heap.size, 0, none⟩) 1 1) rfl rfl _ _ e2 ?_)
      go_roundg g'
      case measure => omega
      case rel => exact ⟨_, i + 1, rfl, by go_num, by omega, by omega, HJ2, HB2⟩
    · have z1 : ¬ (i : Int) < (xs.length : Int) := by omega
      have hJ := HJ.out
      rw [List.take_of_length_le (by omega)] at hJ
      obtain ⟨pf, cf, huf, hlf⟩ := hJ.list mVal HBY.out
      subst huf
      have HF : Hid (ListIs rVal 4 32 (From w.heap.size wr) wr (.slice pf xs.length cf) xs ∧ Below w.heap.size w wr) := ⟨hlf, HB.out⟩
      clear HJ hJ hlf HB
      go_wp2_with fail
      go_ret
      exact ⟨_, _, rfl, HF.out⟩
set_option maxRecDepth 100000 in
set_option maxHeartbeats 4000000 in
theorem each_row (hpart : FreshC rRow 46) : FreshL rRow 1 24 45 #[.func (.func 46) #[] #[]] := by
  intro K w v xs h hK
  show Calls Try.prog 45 #[v, .func (.func 46) #[] #[]] w _
  obtain ⟨p, c, rfl, hby, hp⟩ := h
  have HP : Hid (0 < xs.length → ∃ b o, p = some ⟨b, o, none⟩ ∧ K b ∧ ∀ (j : Nat) (h : j < xs.length), ∃ cs, cs.length = 1 ∧ (∀ (i : Nat) (u : Value), cs[i]? = some u → w.cell? ⟨b, o + j * 1 + i, none⟩ = some u) ∧ rRow K w cs xs[j]) := hp
  have HPT : Hid (FreshC rRow 46) := hpart
  have HKK : Hid (∀ b, K b → b < w.heap.size) := hK
  have HBY : Hid (xs.length * 24 ≤ 140737488355328) := hby.1
  have CG := hid (grow_row xs.length w hby.1)
  obtain ⟨j0, hj0, hj1, hj2, hj3⟩ := inE_row
  have hx63 : xs.length ≤ 140737488355328 := by omega
  clear hp hK hby hpart
  go_enter Try.func45, Try.ntmps45
  go_wp2_with fail
  refine CG.out.mono ?_
  rintro e w0 ⟨u0, rfl, ho0, hb0⟩
  have HJ : Hid (OwnR rRow 1 96 w.heap.size w0 u0 (xs.take 0)) := OwnR.none ho0
  have HB0 : Hid (Below w.heap.size w w0) := hb0
  clear ho0 hb0 CG
  go_wp2_with fail
  go_loopg [5, 13] xs.length (fun gf s3 s8 wx => ∃ (u : Value) (i : Nat), u = s3 ∧ s8 = .int .i64 i ∧ i ≤ xs.length ∧ xs.length ≤ i + gf ∧ Hid (OwnR rRow 1 96 w.heap.size wx u (xs.take i)) ∧ Hid (Below w.heap.size w wx))
  case atStart => exact ⟨_, 0, rfl, rfl, by omega, by omega, HJ, HB0⟩
  case round =>
    clear HJ HB0
    obtain ⟨u, i, rfl, rfl, hi1, hgf, HJ, HB⟩ := hrel
    by_cases hi : i < xs.length
    · obtain ⟨g', rfl⟩ : ∃ g', gk = g' + 1 := ⟨gk - 1, by omega⟩
      obtain ⟨b, o, rfl, hKb, hc⟩ := HP.out (by omega)
      obtain ⟨cs, hcl, hcell, hrel1⟩ := hc i hi
      have htk : xs.take (i + 1) = xs.take i ++ [xs[i]] := List.take_succ_eq_append_getElem hi
      obtain ⟨y, hy⟩ : ∃ y, xs[i] = y := ⟨_, rfl⟩
      rw [hy] at hrel1 htk
      have hbw := HB.out
      have hrw : rRow K wr cs y := mRow _ _ _ _ _ _ (fun _ h => h) (kept_of HKK.out hbw) hrel1
      obtain ⟨v1, rfl, n1⟩ := id hrw
      obtain ⟨za1, ya1, rfl, _, _⟩ := n1
      have hra : ∀ (j : Nat) (u : Value), ([.slice za1 y.length ya1] : List Value)[j]? = some u → wr.cell? ⟨b, o + i * 1 + j, none⟩ = some u := fun j u hu => by
        rw [hbw.cell (p := ⟨b, _, none⟩) (HKK.out _ hKb)]
        exact hcell j u hu
      have c0 : wr.cell? ⟨b, o + i, none⟩ = some (.slice za1 y.length ya1) := by
        have := hra 0 _ rfl
        simpa using this
      obtain ⟨WS, hWSe⟩ : ∃ WS, wr = WS := ⟨_, rfl⟩
      have hbs : Below wr.heap.size wr WS := by rw [← hWSe]; exact Below.refl _ _
      have hKW : ∀ b, K b → b < WS.heap.size := fun b hb => by have := HKK.out b hb; have := hbw.size; have := hbs.size; omega
      have CC := HPT.out K WS _ y (mRow _ _ _ _ _ _ (fun _ h => h) (kept_of (fun b hb => Nat.lt_of_lt_of_le (HKK.out b hb) hbw.size) hbs) hrw) hKW
      have HCC : Hid (Calls Try.prog 46 #[.slice za1 y.length ya1] WS fun e w' => ∃ cs', e = .returned (asV cs') ∧ rRow (From WS.heap.size w') w' cs' y ∧ Below WS.heap.size WS w') := CC
      have HBS : Hid (Below wr.heap.size wr WS) := hbs
      have HTK : Hid (xs.take (i + 1) = xs.take i ++ [y]) := htk
      have z0 : (0 : Int) ≤ (i : Int) := by omega
      have z1' : (i : Int) < (xs.length : Int) := by omega
      subst hWSe
      clear CC hra hbs htk hc hcell hy hKb hcl hbw hrel1 hrw  hKW
      go_wp2_with fail
      refine HCC.out.mono ?_
      rintro e w3 ⟨cs3, rfl, hr3, hb3⟩
      obtain ⟨u1, rfl, n1⟩ := id hr3
      obtain ⟨zb1, yb1, rfl, _, _⟩ := n1
      have hB3 : Below wr.heap.size wr w3 := HBS.out.trans (hb3.mono HBS.out.size)
      have hJX := HJ.out.keep mRow hB3
      have hlen : (xs.take i).length = i := by simp; omega
      have hmx : i + 1 ≤ maxLen := by have := HBY.out; unfold maxLen; omega
      have hb80 : (i + 1) * 24 ≤ 140737488355328 := by have := HBY.out; omega
      obtain ⟨v', X2, e2, hJ2, hb2, hs2⟩ := OwnR.push mRow Try.underlying30 hj0 hj1 hj2 hj3 rfl (by omega) hJX (Nat.le_trans HB.out.size hB3.size) (cs := [.slice zb1 y.length yb1]) (x := y) (K2 := From wr.heap.size w3) rfl (fun c hc => by simp at hc; subst hc; rfl)
        (fun b hb => ⟨by have := hb.1; have := HB.out.size; have := HBS.out.size; omega, hb.2, fun e => by obtain ⟨_, _, _, ho, _⟩ := HJ.out; have := (ho.lt _ e).2; have := hb.1; have := HBS.out.size; omega⟩) hr3 (by rw [hlen]; exact hb80) (by rw [hlen]; exact hmx)
      have HJ2 : Hid (OwnR rRow 1 96 w.heap.size X2 v' (xs.take (i + 1))) := by rw [HTK.out]; exact hJ2
      have HB2 : Hid (Below w.heap.size w X2) := hb2 _ _ (HB.out.trans (hB3.mono HB.out.size)) (Nat.le_refl _)
      clear hJ2 hb2 hs2 hJX hlen hmx hb80 hB3 hr3 hb3  HJ HB
      unfold asV
      go_wp2_with (at_builtin; refine Lib.wpList_append_run _ rfl _ _ _ _ rfl u (.slice (some ⟨w3.heap.size, 0, none⟩) 1 1) rfl rfl _ _ e2 ?_)
      go_roundg g'
      case measure => omega
      case rel => exact ⟨_, i + 1, rfl, by go_num, by omega, by omega, HJ2, HB2⟩
    · have z1 : ¬ (i : Int) < (xs.length : Int) := by omega
      have hJ := HJ.out
      rw [List.take_of_length_le (by omega)] at hJ
      obtain ⟨pf, cf, huf, hlf⟩ := hJ.list mRow HBY.out
      subst huf
      have HF : Hid (ListIs rRow 1 24 (From w.heap.size wr) wr (.slice pf xs.length cf) xs ∧ Below w.heap.size w wr) := ⟨hlf, HB.out⟩
      clear HJ hJ hlf HB
      go_wp2_with fail
      go_ret
      exact ⟨_, _, rfl, HF.out⟩
theorem sz_value : (Try.prog.info? 126).map (·.size) = some 4 := by kernel_rfl
set_option maxRecDepth 100000 in
set_option maxHeartbeats 4000000 in
theorem f_value : FreshC rVal 66 := by
  intro K w cs x h hK
  obtain ⟨rfl, q1, q2, q3⟩ := h
  show Calls Try.prog 66 #[.agg #[.int .u8 x.k, .bool x.b, .int .i64 x.n, .string x.s]] w _
  have HK : Hid (∀ b, K b → b < w.heap.size) := hK
  have HQ : Hid ((0 ≤ x.k ∧ x.k < 256) ∧ I64 x.n ∧ small x.s) := ⟨q1, q2, q3⟩
  obtain ⟨W0, hW0, t0, hs0⟩ := Two.start w 126 #[.int .u8 x.k, .bool x.b, .int .i64 x.n, .string x.s] #[.int .u8 0, .bool false, .int .i64 0, .string ⟨#[]⟩] rfl
  have HT0 : Hid (Two 126 [.int .u8 x.k, .bool x.b, .int .i64 x.n, .string x.s] w W0) := t0
  clear t0 hK  q1 q2 q3
  go_enter Try.func66, Try.ntmps66
  have C1 := hid (clone_any x.s W0 (by have := HQ.out.2.2; unfold small at this; omega))
  have c1 := HT0.out.cell (k := 3) (v := .string x.s) rfl
  go_wp2_with fail
  refine C1.out.mono ?_
  rintro e w1 ⟨rfl, hb1⟩
  have T1 : Hid (Two 126 [.int .u8 x.k, .bool x.b, .int .i64 x.n, .string x.s] w w1) := HT0.out.call hb1
  clear c1 C1
  have d1 := T1.out.cell (k := 3) (v := .string x.s) rfl
  have f1 := frozen_zero T1.out.1 3
  have e1 : w1.setCell ⟨w.heap.size, 3, none⟩ (.string x.s) = w1 := setCell_self T1.out.1 rfl
  clear hb1
  obtain ⟨hra, hth, W5, hW5, hld, hb5, s5, k5⟩ := T1.out.ret Try.underlying126 rfl sz_value
  have HRA : Hid (w1.rangeAt w.heap.size 0 [.int .u8 x.k, .bool x.b, .int .i64 x.n, .string x.s]) := hra
  have HTH : Hid (w1.there (w.heap.size + 1) 0 4) := hth
  have HW5 : Hid (w1.setCells (w.heap.size + 1) 0 (#[.int .u8 x.k, .bool x.b, .int .i64 x.n, .string x.s] : Array Value).toList = W5) := hW5
  have HON : Hid ((#[.int .u8 x.k, .bool x.b, .int .i64 x.n, .string x.s] : Array Value).all (·.oneCell') = true) := by show _ = _; simp [Value.oneCell']
  have HLD : Hid ((loadVar 126 ⟨w.heap.size + 1, 0, none⟩).run Try.prog W5 = .ok (.agg #[.int .u8 x.k, .bool x.b, .int .i64 x.n, .string x.s]) W5) := hld
  have HBF : Hid (Below w.heap.size w W5) := hb5
  clear hra hth hW5 hld hb5 s5 k5
  go_wp2_with (first | (refine wpList_load_mid rfl 126 _ rfl w.heap.size 0 rfl _ _ HRA.out Try.underlying126 rfl sz_value ?_) | (refine wpList_store_mid rfl 126 _ _ rfl (w.heap.size + 1) 0 #[.int .u8 x.k, .bool x.b, .int .i64 x.n, .string x.s] rfl rfl HTH.out sz_value HON.out ?_; rw [HW5.out]))
  refine bodyPost_ret (v := .agg #[.int .u8 x.k, .bool x.b, .int .i64 x.n, .string x.s]) (by simp only [results, Try.results66]; simp [asAddr, Act.put, HLD.out]) rfl ?_
  have hq := HQ.out
  exact ⟨[.int .u8 x.k, .bool x.b, .int .i64 x.n, .string x.s], rfl, ⟨rfl, hq.1, hq.2.1, hq.2.2⟩, HBF.out⟩
theorem f_row : FreshC rRow 46 := by
  intro K w cs x h hK
  obtain ⟨v, rfl, h1⟩ := h
  show Calls Try.prog 46 #[v] w _
  have C : Hid (Calls Try.prog 65 #[v, .func (.func 66) #[] #[]] w fun e w' => CpP rVal 4 32 x w e w') := each_val f_value K w v x h1 hK
  clear h1 hK
  go_enter Try.func46, Try.ntmps46
  go_wp2_with fail
  refine C.out.mono ?_
  rintro e w1 ⟨p, c, rfl, hl, hb⟩
  have HF : Hid (ListIs rVal 4 32 (From w.heap.size w1) w1 (.slice p x.length c) x ∧ Below w.heap.size w w1) := ⟨hl, hb⟩
  clear hl hb
  go_wp2_with fail
  go_ret
  exact ⟨[_], rfl, ⟨_, rfl, HF.out.1⟩, HF.out.2⟩
theorem f_rows : FreshL rRow 1 24 27 #[] := by
  intro K w v xs h hK
  show Calls Try.prog 27 #[v] w _
  have C : Hid (Calls Try.prog 45 #[v, .func (.func 46) #[] #[]] w fun e w' => CpP rRow 1 24 xs w e w') := each_row f_row K w v xs h hK
  clear h hK
  go_enter Try.func27, Try.ntmps27
  go_wp2_with fail
  refine C.out.mono ?_
  rintro e w1 ⟨p, c, rfl, hl, hb⟩
  have HF : Hid (ListIs rRow 1 24 (From w.heap.size w1) w1 (.slice p xs.length c) xs ∧ Below w.heap.size w w1) := ⟨hl, hb⟩
  clear hl hb
  go_wp2_with fail
  go_ret
  exact ⟨_, _, rfl, HF.out⟩
/-- Two cells are stored. -/
theorem two_set {W : World} {g : Nat} {c0 c1 : Value} {t : TypeId} (hg : W.heap[g]? = some (.cells #[c0, c1] t (0, 0))) (a b : Value) :
    ∃ Wa Wb, W.setCell ⟨g, 0, none⟩ a = Wa ∧ Wa.setCell ⟨g, 1, none⟩ b = Wb ∧ W.cell? ⟨g, 0, none⟩ = some c0 ∧ W.frozen? ⟨g, 0, none⟩ = false ∧ Wa.cell? ⟨g, 1, none⟩ = some c1 ∧ Wa.frozen? ⟨g, 1, none⟩ = false ∧ Kept (fun x => x ≠ g) W Wb ∧ Wb.heap.size = W.heap.size ∧ Wb.heap[g]? = some (.cells #[a, b] t (0, 0)) := by
  have e1 := setCell_eq_setRow W g 0 _ t (0, 0) a hg
  have hg1 : (W.setCell ⟨g, 0, none⟩ a).heap[g]? = some (.cells #[a, c1] t (0, 0)) := by rw [e1]; exact setRow_heap W g _ _ t _ hg
  have e2 := setCell_eq_setRow (W.setCell ⟨g, 0, none⟩ a) g 1 _ t (0, 0) b hg1
  have hg2 : ((W.setCell ⟨g, 0, none⟩ a).setCell ⟨g, 1, none⟩ b).heap[g]? = some (.cells #[a, b] t (0, 0)) := by rw [e2]; exact setRow_heap _ g _ _ t _ hg1
  obtain ⟨a1, a2, a3, a4, a5⟩ := setCell_any W g 0 a
  obtain ⟨b1, b2, b3, b4, b5⟩ := setCell_any (W.setCell ⟨g, 0, none⟩ a) g 1 b
  exact ⟨_, _, rfl, rfl, cell_of_row hg rfl, frozen_zero hg 0, cell_of_row hg1 rfl, frozen_zero hg1 1, ⟨b2.trans a2, b3.trans a3, b4.trans a4, by omega, fun x hx => (b5 x hx).trans (a5 x hx)⟩, by omega, hg2⟩
theorem wpList_load_midH {P : Program} {ops : Array Oper} {rest : List Oper} {op : Oper} {a : Act} {w : World} {Q : Exit → Act → World → Prop} (hw : Region.wanted op (yielded ops a.tmps) = true) (ty : TypeId) (x : Operand) (ho : op.op = .load ty x) (b o : Nat) (hx : a.eval x = .pointer (some ⟨b, o, none⟩)) (cs : List Value) (d : TypeDesc) (hc : w.rangeAt b o cs) (hu : P.underlying ty = some d) (hd : d.isRow = true) (hi : (P.info? ty).map (·.size) = some cs.length) (h : wpList P ops Q rest (a.put op.dst (.agg cs.toArray)) w) : wpList P ops Q (op :: rest) a w :=
  wpList_step fun K hK => by rw [if_pos hw]; exact wp_load_mid ty x ho b o hx cs d hc hu hd hi (hK _ _ h)
theorem range_box {W V : World} {b : Nat} {cl : List Value} {t : TypeId} (hg : W.heap[b]? = some (.cells cl.toArray t (0, 0))) (hb : Below W.heap.size W V) : V.rangeAt b 0 cl := fun j u hj => by
  rw [hb.cell (p := ⟨b, _, none⟩) (Array.getElem?_eq_some_iff.1 hg).1, Nat.zero_add]
  exact cell_of_row hg (by simpa using hj)
theorem wp_append_run {P : Program} {op : Oper} {a : Act} {w : World} {K : Act → World → Prop} {Q : Exit → Act → World → Prop} (x y : Operand) (t u : TypeId) (ho : op.op = .call { callee := .builtin .append, args := #[x, y], argTypes := #[t, u] }) (v1 v2 : Value) (hx : a.eval x = v1) (hy : a.eval y = v2) (v' : Value) (w' : World) (hr : (Builtin.append_ #[t, u] op.type #[v1, v2]).run P w = .ok v' w') (h : K (a.put op.dst v') w') : op.wp P a w K Q := by
  unfold Oper.wp execOp
  simp only [ho, resolve, invoke, builtin, Sem.run_bind, Sem.run_pure, Result.andThen_ok, List.map_toArray, List.map_cons, List.map_nil, hx, hy, hr]
  exact h
theorem wp_build_run {P : Program} {op : Oper} {a : Act} {w : World} {K : Act → World → Prop} {Q : Exit → Act → World → Prop} (t : TypeId) (i1 i2 : Nat) (x y : Operand) (ho : op.op = .build t #[(i1, x), (i2, y)]) (v1 v2 : Value) (hx : a.eval x = v1) (hy : a.eval y = v2) (v' : Value) (hr : (Instr.build t #[(i1, v1), (i2, v2)]).run P w = .ok v' w) (h : K (a.put op.dst v') w) : op.wp P a w K Q := by
  unfold Oper.wp execOp
  simp only [ho, List.map_toArray, List.map_cons, List.map_nil, hx, hy, Sem.run_bind, hr, Result.andThen_ok]
  exact h
theorem OwnR.kept {α : Type} {rel : Rel α} (hm : Mono rel) {size : Nat} {te : TypeId} {base : Nat} {W W' : World} {u : Value} {xs : List α} (h : OwnR rel size te base W u xs) (hk : Kept (fun b => base ≤ b) W W') : OwnR rel size te base W' u xs := by
  obtain ⟨K, cells, hK, ho, hr⟩ := h
  refine ⟨K, cells, fun b h => ⟨(hK b h).1, Nat.lt_of_lt_of_le (hK b h).2.1 hk.size, (hK b h).2.2⟩, ?_, fun j hj => hm _ _ _ _ _ _ (fun _ h => h) (hk.less fun b h => (hK b h).1) (hr j hj)⟩
  obtain ⟨hl, ⟨rfl, hn⟩ | ⟨g, cap, cur, rfl, h1, hg, r⟩⟩ := ho
  · exact ⟨hl, .inl ⟨rfl, hn⟩⟩
  · exact ⟨hl, .inr ⟨g, cap, cur, rfl, h1, by rw [hk.block _ h1]; exact hg, r⟩⟩
theorem OwnR.block {α : Type} {rel : Rel α} {size : Nat} {te : TypeId} {base : Nat} {W : World} {u : Value} {xs : List α} (h : OwnR rel size te base W u xs) : ∀ g, u.ownBlock = some g → base ≤ g ∧ g < W.heap.size := fun g hg => by
  obtain ⟨_, _, _, ho, _⟩ := h
  exact ho.lt g hg
theorem cap1 (a b : Value) : #[a] ++ #[b] = #[a, b] := by simp
theorem cap2 (a b c : Value) : #[a] ++ #[b, c] = #[a, b, c] := by simp
theorem three_boxes (w : World) (a b c : Array Value) (t1 t2 t3 : TypeId) : ∃ W0, ((w.alloc (.cells a t1)).alloc (.cells b t2)).alloc (.cells c t3) = W0 ∧ Below w.heap.size w W0 ∧ W0.heap.size = w.heap.size + 3 ∧ W0.heap[w.heap.size]? = some (.cells a t1 (0, 0)) ∧ W0.heap[w.heap.size + 1]? = some (.cells b t2 (0, 0)) ∧ W0.heap[w.heap.size + 1 + 1]? = some (.cells c t3 (0, 0)) := by
  refine ⟨_, rfl, (((Below.refl _ _).alloc (Nat.le_refl _) _).alloc (by simp) _).alloc (by simp; omega) _, by simp, ?_, ?_, ?_⟩
  · rw [hao _ _ _ (by simp; omega), hao _ _ _ (by simp)]; exact heap_alloc_new w _
  · rw [hao _ _ _ (by simp)]
    have := heap_alloc_new (w.alloc (.cells a t1)) (.cells b t2)
    simpa using this
  · have := heap_alloc_new ((w.alloc (.cells a t1)).alloc (.cells b t2)) (.cells c t3)
    simpa using this
/-- A list that is being made: a row of one's own whose parts lie elsewhere, in new memory too. -/
def OwnN {α : Type} (rel : Rel α) (size : Nat) (te : TypeId) (base lb : Nat) (W : World) (u : Value) (xs : List α) : Prop :=
  ∃ (K : Nat → Prop) (cells : List Value), (∀ b, K b → base ≤ b ∧ b < W.heap.size ∧ u.ownBlock ≠ some b ∧ b ≠ lb) ∧ W.ownsRow base te size u xs.length cells ∧ ∀ j (h : j < xs.length), rel K W ((cells.drop (j * size)).take size) xs[j]
theorem OwnN.keep {α : Type} {rel : Rel α} (hm : Mono rel) {size : Nat} {te : TypeId} {base lb : Nat} {W W' : World} {u : Value} {xs : List α} (h : OwnN rel size te base lb W u xs) (hb : Below W.heap.size W W') : OwnN rel size te base lb W' u xs := by
  obtain ⟨K, cells, hK, ho, hr⟩ := h
  refine ⟨K, cells, fun b h => ⟨(hK b h).1, Nat.lt_of_lt_of_le (hK b h).2.1 hb.size, (hK b h).2.2⟩, ?_, fun j hj => hm _ _ _ _ _ _ (fun _ h => h) (kept_of (fun b h => (hK b h).2.1) hb) (hr j hj)⟩
  obtain ⟨hl, ⟨rfl, hn⟩ | ⟨g, cap, cur, rfl, h1, hg, r⟩⟩ := ho
  · exact ⟨hl, .inl ⟨rfl, hn⟩⟩
  · exact ⟨hl, .inr ⟨g, cap, cur, rfl, h1, by rw [hb.block _ (Array.getElem?_eq_some_iff.1 hg).1]; exact hg, r⟩⟩
theorem OwnN.list {α : Type} {rel : Rel α} (hm : Mono rel) {size bytes : Nat} {te : TypeId} {base lb : Nat} {W : World} {u : Value} {xs : List α} (h : OwnN rel size te base lb W u xs) (hb : xs.length * bytes ≤ 140737488355328) : ∃ p c, u = .slice p xs.length c ∧ ListIs rel size bytes (From base W) W (.slice p xs.length c) xs := by
  obtain ⟨K, cells, hK, ho, hr⟩ := h
  have hr2 : ∀ j (h : j < xs.length), rel (From base W) W ((cells.drop (j * size)).take size) xs[j] := fun j hj => hm _ _ _ _ _ _ (fun b h => ⟨(hK b h).1, (hK b h).2.1⟩) ⟨rfl, rfl, rfl, Nat.le_refl _, fun _ _ => rfl⟩ (hr j hj)
  obtain ⟨hl, ⟨rfl, hn⟩ | ⟨g, cap, cur, rfl, hbg, hg, hnc, hcm, hcs, htake⟩⟩ := ho
  · exact ⟨none, 0, by rw [hn], none, 0, by rw [hn], ⟨hb, by omega⟩, fun h => by omega⟩
  · refine ⟨_, cap, rfl, _, cap, rfl, ⟨hb, hnc⟩, fun _ => ⟨g, 0, rfl, ⟨hbg, (Array.getElem?_eq_some_iff.1 hg).1⟩, fun j hj => ⟨_, ?_, fun i u hu => ?_, hr2 j hj⟩⟩⟩
    · have h1 : j * size + size ≤ xs.length * size := by
        have := Nat.mul_le_mul_right size (show j + 1 ≤ xs.length by omega)
        rwa [Nat.add_mul, Nat.one_mul] at this
      rw [List.length_take, List.length_drop, hl]; omega
    · have hi : i < size := by
        have := (List.getElem?_eq_some_iff.1 hu).1
        rw [List.length_take] at this; omega
      rw [List.getElem?_take_of_lt hi, List.getElem?_drop, ← htake] at hu
      have hlt : j * size + i < xs.length * size := by
        have := Nat.mul_le_mul_right size (show j + 1 ≤ xs.length by omega)
        rw [Nat.add_mul, Nat.one_mul] at this; omega
      rw [List.getElem?_take_of_lt hlt] at hu
      rw [Nat.zero_add]
      exact cell_of_row hg (by simpa using hu)
/-- One part more. -/
theorem OwnN.push {α : Type} {rel : Rel α} (hm : Mono rel) {size bytes : Nat} {ts te : TypeId} {i0 : TypeInfo} {z : Value} (hu : Try.prog.underlying ts = some (.slice te)) (hi : Try.prog.info? te = some i0) (hz : i0.zero = some z) (hs : i0.size = size) (hby : i0.bytes = bytes) (hzs : z.cells.size = size) (hs0 : 0 < size)
    {base lb : Nat} {X : World} {u : Value} {xs : List α} (h : OwnN rel size te base lb X u xs) (hbase : base ≤ X.heap.size) {cs : List Value} {x : α} {K2 : Nat → Prop} (hcs : cs.length = size) (hone : ∀ c ∈ cs, c.oneCell' = true) (hK2 : ∀ b, K2 b → base ≤ b ∧ b < X.heap.size ∧ u.ownBlock ≠ some b ∧ b ≠ lb) (hr : rel K2 X cs x) (hbytes : (xs.length + 1) * bytes ≤ 140737488355328) (hmax : xs.length + 1 ≤ maxLen) :
    ∃ v' X2, (Builtin.append_ #[ts, ts] ts #[u, .slice (some ⟨X.heap.size, 0, none⟩) 1 1]).run Try.prog (X.alloc (.cells cs.toArray te)) = .ok v' X2 ∧ OwnN rel size te base lb X2 v' (xs ++ [x]) ∧ (∀ B w0, Below B w0 X → B ≤ base → Below B w0 X2) ∧ X.heap.size < X2.heap.size ∧ ∀ b, b < X.heap.size → u.ownBlock ≠ some b → X2.heap[b]? = X.heap[b]? := by
  obtain ⟨K, cells, hK, ho, hrr⟩ := h
  obtain ⟨X1, hX1⟩ : ∃ X1, X.alloc (.cells cs.toArray te) = X1 := ⟨_, rfl⟩
  have hb1 : Below X.heap.size X X1 := by rw [← hX1]; exact (Below.refl _ _).alloc (Nat.le_refl _) _
  have hs1 : X1.heap.size = X.heap.size + 1 := by rw [← hX1]; simp
  have hg1 : X1.heap[X.heap.size]? = some (.cells cs.toArray te (0, 0)) := by rw [← hX1]; exact heap_alloc_new X _
  rw [hX1]
  have ho1 : X1.ownsRow base te size u xs.length cells := by
    obtain ⟨hl, ⟨rfl, hn⟩ | ⟨g, cap, cur, rfl, h1, hg, r⟩⟩ := ho
    · exact ⟨hl, .inl ⟨rfl, hn⟩⟩
    · exact ⟨hl, .inr ⟨g, cap, cur, rfl, h1, by rw [hb1.block _ (Array.getElem?_eq_some_iff.1 hg).1]; exact hg, r⟩⟩
  have hnew : ∀ j v, cs[j]? = some v → X1.cell? ((⟨X.heap.size, 0, none⟩ : Addr).add j) = some v := fun j v hv => by
    rw [addr_add, Nat.zero_add]
    exact cell_of_row hg1 (by simpa using hv)
  obtain ⟨v', X2, e, ho2, h5, _, h6⟩ := run_append_own_at (P := Try.prog) X1 base ts ts te i0 z size bytes hu hi hz hs hby hzs hs0 u xs.length cells ho1 ⟨X.heap.size, 0, none⟩ 1 1 cs (by rw [hcs, Nat.one_mul]) hnew hone hmax hbytes (by omega)
  have hsz := h5.size
  have hKeep : ∀ (Q : Nat → Prop), (∀ b, Q b → b < X.heap.size ∧ u.ownBlock ≠ some b) → Kept Q X X2 := fun Q hQ => by
    refine ⟨h5.os.trans hb1.os, h5.tape.trans hb1.tape, h5.output.trans hb1.output, by omega, fun b hb => ?_⟩
    rw [h5.block b (by have := (hQ b hb).1; omega) (fun e => (hQ b hb).2 e.symm)]
    exact hb1.block b (hQ b hb).1
  refine ⟨v', X2, e, ⟨fun b => K b ∨ K2 b, cells ++ cs, fun b hb => ?_, by rw [List.length_append]; exact ho2, fun j hj => ?_⟩, fun B w0 hb hB => ?_, by omega, fun b h1 h2 => (h5.block b (by omega) (fun e => h2 e.symm)).trans (hb1.block b h1)⟩
  · have h3 : base ≤ b ∧ b < X.heap.size ∧ u.ownBlock ≠ some b ∧ b ≠ lb := hb.elim (hK b) (hK2 b)
    refine ⟨h3.1, by omega, fun e => ?_, h3.2.2.2⟩
    rcases h6 with h6 | h6
    · rw [h6] at e; exact h3.2.2.1 e
    · rw [h6] at e; simp only [Option.some.injEq] at e; omega
  · by_cases hjn : j < xs.length
    · rw [part_of ho.1 hcs hjn, List.getElem_append_left hjn]
      exact hm _ _ _ _ _ _ (fun _ h => .inl h) (hKeep K (fun b h => ⟨(hK b h).2.1, (hK b h).2.2.1⟩)) (hrr j hjn)
    · have e2 : j = xs.length := by simp at hj; omega
      subst e2
      have hl := ho.1
      rw [List.drop_append_of_le_length (by omega), List.drop_of_length_le (by omega), List.nil_append, List.take_of_length_le (by omega), List.getElem_append_right (Nat.le_refl _)]
      simp only [Nat.sub_self, List.getElem_cons_zero]
      exact hm _ _ _ _ _ _ (fun _ h => .inr h) (hKeep K2 (fun b h => ⟨(hK2 b h).2.1, (hK2 b h).2.2.1⟩)) hr
  · exact Below.grown (hb.trans (hb1.mono (Nat.le_trans hB hbase))) h5 (by omega) (fun j hj => by have := (ho1.lt _ hj).1; omega)
theorem OwnN.of {α : Type} {rel : Rel α} {size : Nat} {te : TypeId} {base lb : Nat} {W : World} {u : Value} {xs : List α} (h : OwnR rel size te base W u xs) (hl : W.heap.size ≤ lb) : OwnN rel size te base lb W u xs := by
  obtain ⟨K, cells, hK, ho, hr⟩ := h
  exact ⟨K, cells, fun b hb => ⟨(hK b hb).1, (hK b hb).2.1, (hK b hb).2.2, by have := (hK b hb).2.1; omega⟩, ho, hr⟩
theorem wpQuiet_load_mid {P : Program} {ops : Array Oper} {C : World → Prop} {Q : Act → Prop} {a : Act} {op : Oper} {rest : List Oper} (hw : Region.wanted op (yielded ops a.tmps) = true) (ty : TypeId) (x : Operand) (ho : op.op = .load ty x)
    (b o : Nat) (hx : a.eval x = .pointer (some ⟨b, o, none⟩)) (cs : List Value) (d : TypeDesc) (hC : ∀ w, C w → w.rangeAt b o cs)
    (hu : P.underlying ty = some d) (hd : d.isRow = true) (hi : (P.info? ty).map (·.size) = some cs.length)
    (h : wpQuiet P ops C Q rest (a.put op.dst (.agg cs.toArray))) : wpQuiet P ops C Q (op :: rest) a := by
  unfold wpQuiet
  rw [if_pos hw]
  refine ⟨.agg cs.toArray, fun w hw' => ?_, h⟩
  unfold Oper.quietAt execOp
  simp only [ho, hx, Instr.loadAt, Instr.sureAddr, Sem.run_bind, Sem.run_pure, Result.andThen_ok, run_loadVar_mid w b o ty cs d (hC w hw') hu hd hi]
  exact ⟨rfl, rfl⟩
theorem one_box (w : World) (v : Value) (t : TypeId) : ∃ W1, w.alloc (.cells #[v] t) = W1 ∧ Below w.heap.size w W1 ∧ W1.heap[w.heap.size]? = some (.cells #[v] t (0, 0)) ∧ W1.heap.size = w.heap.size + 1 := ⟨_, rfl, (Below.refl _ _).alloc (Nat.le_refl _) _, heap_alloc_new w _, by simp⟩
end Go.Proofs.Ytcmiphgeakdonaa
