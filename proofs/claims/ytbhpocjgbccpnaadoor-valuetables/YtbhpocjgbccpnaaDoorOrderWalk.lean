/- The law ValueOrder returns true, of any three values. -/
import Derived.Test.YtbhpocjgbccpnaaDoorLives
import Derived.Test.YtbhpocjgbccpnaaDoorChkB
import Derived.Test.YtbhpocjgbccpnaaDoorHash
import Derived.Deep.DeepCutAuto
namespace Go.Proofs.YtbhpocjgbccpnaaDoor
open Go.RowKit Go.Lib Go.Sort
set_option linter.unusedVariables false
attribute [local go_sem ↓] Go.wp_at_zero Go.wp_at_succ

def boxO (k : Int) (b : Bool) (n : Int) (s : ByteArray) : Obj := .cells #[.int .u8 k, .bool b, .int .i64 n, .string s] 24
/-- A world in which all that lay below B stands as it stood. -/
structure Later (B : Nat) (W0 : World) where
  w : World
  h : Below B W0 w
theorem wp_region_later {P : Program} {id : Nat} {Q : Exit → Act → World → Prop} {a : Act} {w : World} {l : List Oper} (hm : P.follows .mixedOrders = true) (hB : Region.lexB .any l.toArray = true)
    (h : wpQuiet P l.toArray (fun w' => ∃ p : Later w.heap.size w, w' = p.w) (fun a' => ∀ w', (∃ p : Later w.heap.size w, w' = p.w) → Q .normal a' w') l a) : (Code.region id l.toArray true).wp P Q a w :=
  wp_region_quiet (C := fun w' => ∃ p : Later w.heap.size w, w' = p.w) hm hB ⟨⟨w.drew, (Below.refl _ _).drew⟩, rfl⟩ (by simpa using h)
theorem calls_later {P : Program} {f : FuncId} {args : Array Value} {W0 : World} {p : Later W0.heap.size W0} {v : Value}
    (h : Calls P f args p.w fun e w' => e = .returned v ∧ Below p.w.heap.size p.w w') : Calls P f args p.w fun e w'' => e = .returned v ∧ ∃ p' : Later W0.heap.size W0, w'' = p'.w :=
  h.mono fun _ _ ⟨he, hb⟩ => ⟨he, ⟨_, p.h.trans (hb.mono p.h.size)⟩, rfl⟩
/-- A row of two values that lies in a block of its own. -/
theorem row_pair {W : World} {blk : Nat} {x y : Val} (h : W.heap[blk]? = some (.cells #[.int .u8 x.k, .bool x.b, .int .i64 x.n, .string x.s, .int .u8 y.k, .bool y.b, .int .i64 y.n, .string y.s] 24)) : RowIs W blk 0 [x, y] ∧ blk < W.heap.size := by
  refine ⟨?_, (Array.getElem?_eq_some_iff.1 h).1⟩
  intro j hj
  match j, hj with
  | 0, _ => simp [World.cell?, h]
  | 1, _ => simp [World.cell?, h]
theorem RowIs.first {W : World} {blk : Nat} {x y : Val} (h : RowIs W blk 0 [x, y]) : RowIs W blk 0 [x] := by
  intro j hj
  match j, hj with
  | 0, _ => exact h 0 (by simp)
theorem lex_pair (x y z : Val) (hx : cmpV x x = 0) : lexBy cmpV [x, y] [x, z] = cmpV y z := by
  simp only [lexBy, hx, if_true]
  split
  · rename_i h; exact h.symm
  · rfl
theorem lex_short (x y : Val) (hx : cmpV x x = 0) : lexBy cmpV [x, y] [x] = 1 := by
  simp [lexBy, hx]
theorem pair_heap (W : World) (o1 o2 : Obj) : ((W.alloc o1).alloc o2).drew.heap[W.heap.size]? = some o1 ∧ ((W.alloc o1).alloc o2).drew.heap[W.heap.size + 1]? = some o2 := by
  show ((W.alloc o1).alloc o2).heap[W.heap.size]? = some o1 ∧ ((W.alloc o1).alloc o2).heap[W.heap.size + 1]? = some o2
  simp only [push_at, size_at]
  constructor
  · rw [if_neg (by omega)]; simp
  · simp
theorem cell_new (W : World) (o : Obj) (a : Addr) (v : Value) (ha : a.block < W.heap.size) (h : W.cell? a = some v) : (W.alloc o).cell? a = some v := by
  rw [← h]
  exact ((Below.refl _ W).alloc (Nat.le_refl _) o).cell ha
theorem mixedOn : Tryd.prog.follows .mixedOrders = true := by kernel_rfl
theorem chk_vals (v : Val) : chkV v = 0 ∨ chkV v = 4 ∨ chkV v = 5 ∨ chkV v = 9 := by
  unfold chkV; split <;> (try split) <;> (try split) <;> simp
/-- The four cells of a value in a block. -/
theorem box_cells {W : World} {blk : Nat} {k : Int} {b : Bool} {n : Int} {s : ByteArray} (h : W.heap[blk]? = some (boxO k b n s)) :
    W.cell? ⟨blk, 0, none⟩ = some (.int .u8 k) ∧ W.cell? ⟨blk, 1, none⟩ = some (.bool b) ∧ W.cell? ⟨blk, 2, none⟩ = some (.int .i64 n) ∧ W.cell? ⟨blk, 3, none⟩ = some (.string s) := by
  simp [World.cell?, h, boxO]
theorem three_boxes {w w1 : World} {o1 o2 o3 : Obj} (hb : Below (((w.alloc o1).alloc o2).alloc o3).heap.size (((w.alloc o1).alloc o2).alloc o3) w1) :
    w1.heap[w.heap.size]? = some o1 ∧ w1.heap[w.heap.size + 1]? = some o2 ∧ w1.heap[w.heap.size + 1 + 1]? = some o3 ∧ Below w.heap.size w w1 ∧ w.heap.size + 3 ≤ w1.heap.size := by
  have hs := hb.size
  rw [size_at, size_at, size_at] at hs
  have hs' : (((w.alloc o1).alloc o2).alloc o3).heap.size = w.heap.size + 1 + 1 + 1 := by rw [size_at, size_at, size_at]
  refine ⟨?_, ?_, ?_, (below_three o1 o2 o3).trans (hb.mono (by omega)), by omega⟩
  · rw [hb.block _ (by omega)]; simp only [push_at, size_at]; rw [if_neg (by omega), if_neg (by omega)]; simp
  · rw [hb.block _ (by omega)]; simp only [push_at, size_at]; rw [if_neg (by omega)]; simp
  · rw [hb.block _ (by omega)]; simp only [push_at, size_at]; simp

set_option maxHeartbeats 16000000 in
set_option maxRecDepth 100000 in
theorem order_core (xk yk zk : Int) (xb yb zb : Bool) (xn yn zn : Int) (xs ys zs : ByteArray) (w : World) (hT : Lib.Utf8Tabs 0 1 w) (hxk : 0 ≤ xk ∧ xk ≤ 255) (hyk : 0 ≤ yk ∧ yk ≤ 255) (hxs : xs.size ≤ 9223372036854775807) (hys : ys.size ≤ 9223372036854775807) :
    Calls Tryd.prog 7 #[.agg #[.int .u8 xk, .bool xb, .int .i64 xn, .string xs], .agg #[.int .u8 yk, .bool yb, .int .i64 yn, .string ys], .agg #[.int .u8 zk, .bool zb, .int .i64 zn, .string zs]] w fun e w' => e = .returned (.bool true) ∧ Below w.heap.size w w' := by
  have LV : Hid (∀ W, Below w.heap.size w W → Calls Tryd.prog 9 #[] W fun e w' => e = .returned (.bool true) ∧ Below W.heap.size W w') := fun W h => lives_any W (Utf8Tabs_below hT h)
  have CM : Hid (∀ (k k' : Int) (b b' : Bool) (n n' : Int) (s s' : ByteArray) (W : World), Below w.heap.size w W → Calls Tryd.prog 12 #[.agg #[.int .u8 k, .bool b, .int .i64 n, .string s], .agg #[.int .u8 k', .bool b', .int .i64 n', .string s']] W
      fun e w' => e = .returned (.int .i64 (cmpV ⟨k, b, n, s⟩ ⟨k', b', n', s'⟩)) ∧ Below W.heap.size W w') := fun k k' b b' n n' s s' W h => compare_core k k' b b' n n' s s' W (Utf8Tabs_below hT h)
  have HT : Hid (Lib.Utf8Tabs 0 1 w) := hT
  have KX : Hid (∀ W, Below w.heap.size w W → Calls Tryd.prog 10 #[.agg #[.int .u8 xk, .bool xb, .int .i64 xn, .string xs]] W fun e w' => e = .returned (.int .i64 (chkV ⟨xk, xb, xn, xs⟩)) ∧ Below W.heap.size W w') := fun W h => check_any ⟨xk, xb, xn, xs⟩ W hxs (Utf8Tabs_below hT h)
  have KY : Hid (∀ W, Below w.heap.size w W → Calls Tryd.prog 10 #[.agg #[.int .u8 yk, .bool yb, .int .i64 yn, .string ys]] W fun e w' => e = .returned (.int .i64 (chkV ⟨yk, yb, yn, ys⟩)) ∧ Below W.heap.size W w') := fun W h => check_any ⟨yk, yb, yn, ys⟩ W hys (Utf8Tabs_below hT h)
  have SX : Hid (∀ W, Calls Tryd.prog 14 #[.agg #[.int .u8 xk, .bool xb, .int .i64 xn, .string xs]] W fun e w' => e = .returned (.int .u64 (hashV ⟨xk, xb, xn, xs⟩)) ∧ Below W.heap.size W w') := fun W => hash_core xk xb xn xs W hxk.1 hxk.2 hxs
  clear hT hxk hyk hxs hys
  go_enter Tryd.func7, Tryd.ntmps7
  go_wp2_with fail
  have hb0 := below_three (w := w) (.cells #[.int .u8 xk, .bool xb, .int .i64 xn, .string xs] 24) (.cells #[.int .u8 yk, .bool yb, .int .i64 yn, .string ys] 24) (.cells #[.int .u8 zk, .bool zb, .int .i64 zn, .string zs] 24)
  refine (LV.out _ hb0).mono ?_
  rintro e w1 ⟨rfl, hb1⟩
  obtain ⟨bx, bY, bz, hw1, sz1⟩ := three_boxes hb1
  obtain ⟨x0, x1, x2, x3⟩ := box_cells (k := xk) (b := xb) (n := xn) (s := xs) bx
  obtain ⟨y0, y1, y2, y3⟩ := box_cells (k := yk) (b := yb) (n := yn) (s := ys) bY
  obtain ⟨z0, z1, z2, z3⟩ := box_cells (k := zk) (b := zb) (n := zn) (s := zs) bz
  have HX : Hid (w1.heap[w.heap.size]? = some (boxO xk xb xn xs)) := bx
  have HY : Hid (w1.heap[w.heap.size + 1]? = some (boxO yk yb yn ys)) := bY
  have HZ : Hid (w1.heap[w.heap.size + 1 + 1]? = some (boxO zk zb zn zs)) := bz
  clear bx bY bz
  clear hb1 hb0
  go_wp2
  have hd1 : Below w.heap.size w w1.drew := hw1.drew
  have H1 : Hid (Below w.heap.size w w1.drew) := hd1
  go_region_held3 (fun w' => w'.cell? ⟨w.heap.size, 0, none⟩ = some (.int .u8 xk) ∧ w'.cell? ⟨w.heap.size, 1, none⟩ = some (.bool xb) ∧ w'.cell? ⟨w.heap.size, 2, none⟩ = some (.int .i64 xn) ∧ w'.cell? ⟨w.heap.size, 3, none⟩ = some (.string xs)
     ∧ w'.cell? ⟨w.heap.size + 1, 0, none⟩ = some (.int .u8 yk) ∧ w'.cell? ⟨w.heap.size + 1, 1, none⟩ = some (.bool yb) ∧ w'.cell? ⟨w.heap.size + 1, 2, none⟩ = some (.int .i64 yn) ∧ w'.cell? ⟨w.heap.size + 1, 3, none⟩ = some (.string ys)
     ∧ w'.cell? ⟨w.heap.size + 1 + 1, 0, none⟩ = some (.int .u8 zk) ∧ w'.cell? ⟨w.heap.size + 1 + 1, 1, none⟩ = some (.bool zb) ∧ w'.cell? ⟨w.heap.size + 1 + 1, 2, none⟩ = some (.int .i64 zn) ∧ w'.cell? ⟨w.heap.size + 1 + 1, 3, none⟩ = some (.string zs))
    (first
      | (go_split_ands; refine ⟨?_, ?_, ?_, ?_, ?_, ?_, ?_, ?_, ?_, ?_, ?_, ?_⟩ <;> (rw [hbc.cell (by simp; have := hbb.size; have := hba.size; simp at *; omega)]; assumption))
      | (go_split_ands; refine ⟨?_, ?_, ?_, ?_, ?_, ?_, ?_, ?_, ?_, ?_, ?_, ?_⟩ <;> (rw [hbb.cell (by simp; have := hba.size; simp at *; omega)]; assumption))
      | (go_split_ands; refine ⟨?_, ?_, ?_, ?_, ?_, ?_, ?_, ?_, ?_, ?_, ?_, ?_⟩ <;> (rw [hba.cell (by simp; omega)]; assumption))
      | go_keep)
    ((first
      | (go_at_call 12; refine (CM.out _ _ _ _ _ _ _ _ _ H3.out).mono ?_; rintro e wc ⟨rfl, hbc⟩)
      | (go_at_call 12; refine (CM.out _ _ _ _ _ _ _ _ _ H2.out).mono ?_; rintro e wb ⟨rfl, hbb⟩; have H3 : Hid (Below w.heap.size w wb) := Below.trans H2.out (hbb.mono H2.out.size))
      | (go_at_call 12; refine (CM.out _ _ _ _ _ _ _ _ _ H1.out).mono ?_; rintro e wa ⟨rfl, hba⟩; have H2 : Hid (Below w.heap.size w wa) := Below.trans H1.out (hba.mono H1.out.size))))
  have hs1 : w1.heap.size ≤ wa.heap.size := hba.size
  have hs2 := hbb.size
  have hs3 := hbc.size
  have hk : Below w1.heap.size w1 wc := ((below_drewN (Below.refl _ _) 1).trans hba).trans ((hbb.mono hs1).trans (hbc.mono (Nat.le_trans hs1 hs2)))
  have HK : Hid (Below w1.heap.size w1 wc) := hk
  have HW : Hid (Below w.heap.size w wc) := hw1.trans (hk.mono hw1.size)
  have HW1 : Hid (Below w.heap.size w w1) := hw1
  clear x0 x1 x2 x3 y0 y1 y2 y3 z0 z1 z2 z3 hba hbb hbc hs1 hs2 hs3 hd1 H1 H2 H3 hw1 hk
  obtain ⟨X, hX⟩ : ∃ X, cmpV ⟨xk, xb, xn, xs⟩ ⟨yk, yb, yn, ys⟩ = X := ⟨_, rfl⟩
  obtain ⟨Y, hY⟩ : ∃ Y, cmpV ⟨yk, yb, yn, ys⟩ ⟨zk, zb, zn, zs⟩ = Y := ⟨_, rfl⟩
  obtain ⟨Z, hZ⟩ : ∃ Z, cmpV ⟨xk, xb, xn, xs⟩ ⟨zk, zb, zn, zs⟩ = Z := ⟨_, rfl⟩
  rw [hX, hY, hZ]
  have ax := pc_val.anti ⟨xk, xb, xn, xs⟩ ⟨yk, yb, yn, ys⟩
  have ay := pc_val.anti ⟨yk, yb, yn, ys⟩ ⟨zk, zb, zn, zs⟩
  have lx1 := pc_val.low ⟨xk, xb, xn, xs⟩ ⟨yk, yb, yn, ys⟩
  have lx2 := pc_val.low ⟨yk, yb, yn, ys⟩ ⟨xk, xb, xn, xs⟩
  have ly1 := pc_val.low ⟨yk, yb, yn, ys⟩ ⟨zk, zb, zn, zs⟩
  have ly2 := pc_val.low ⟨zk, zb, zn, zs⟩ ⟨yk, yb, yn, ys⟩
  have tr := pc_val.trans ⟨xk, xb, xn, xs⟩ ⟨yk, yb, yn, ys⟩ ⟨zk, zb, zn, zs⟩
  rw [ax] at lx2
  rw [ay] at ly2
  rw [hX] at ax lx1 lx2 tr
  rw [hY] at ay ly1 ly2 tr
  rw [hZ] at tr
  have cyx := fun W h => CM.out yk xk yb xb yn xn ys xs W h
  have cxx := fun W h => CM.out xk xk xb xb xn xn xs xs W h
  rw [ax] at cyx
  rw [show cmpV ⟨xk, xb, xn, xs⟩ ⟨xk, xb, xn, xs⟩ = 0 by have := pc_val.anti ⟨xk, xb, xn, xs⟩ ⟨xk, xb, xn, xs⟩; omega] at cxx
  have CYX : Hid (∀ W, Below w.heap.size w W → Calls Tryd.prog 12 #[.agg #[.int .u8 yk, .bool yb, .int .i64 yn, .string ys], .agg #[.int .u8 xk, .bool xb, .int .i64 xn, .string xs]] W fun e w' => e = .returned (.int .i64 (-X)) ∧ Below W.heap.size W w') := cyx
  have CXX : Hid (∀ W, Below w.heap.size w W → Calls Tryd.prog 12 #[.agg #[.int .u8 xk, .bool xb, .int .i64 xn, .string xs], .agg #[.int .u8 xk, .bool xb, .int .i64 xn, .string xs]] W fun e w' => e = .returned (.int .i64 0) ∧ Below W.heap.size W w') := cxx
  have HAX : Hid (cmpV ⟨xk, xb, xn, xs⟩ ⟨yk, yb, yn, ys⟩ = X) := hX
  have HAY : Hid (cmpV ⟨yk, yb, yn, ys⟩ ⟨zk, zb, zn, zs⟩ = Y) := hY
  have HTR : Hid (X ≤ 0 → Y ≤ 0 → Z ≤ 0 ∧ (Z = 0 → X = 0 ∧ Y = 0)) := tr
  clear ax ay hX hY hZ cyx cxx tr
  have hX1 : X ≤ 1 := by omega
  have hY1 : Y ≤ 1 := by omega
  clear lx2 ly2
  go_upto_region 4 with fail
  go_cut [58] (fun s58 wx => s58 = .bool false ∧ Below w1.heap.size w1 wx)
  case first =>
    obtain ⟨x0, x1, x2, x3⟩ := box_cells (k := xk) (b := xb) (n := xn) (s := xs) ((HK.out.block _ (by omega)).trans HX.out)
    obtain ⟨y0, y1, y2, y3⟩ := box_cells (k := yk) (b := yb) (n := yn) (s := ys) ((HK.out.block _ (by omega)).trans HY.out)
    go_wp2_with fail
    refine (CYX.out _ HW.out).mono ?_
    rintro e wd ⟨rfl, hbd⟩
    have HKd : Hid (Below w1.heap.size w1 wd) := HK.out.trans (hbd.mono HK.out.size)
    have HWd : Hid (Below w.heap.size w wd) := HW.out.trans (hbd.mono HW.out.size)
    clear hbd HK HW x0 x1 x2 x3 y0 y1 y2 y3
    obtain ⟨x0, x1, x2, x3⟩ := box_cells (k := xk) (b := xb) (n := xn) (s := xs) ((HKd.out.block _ (by omega)).trans HX.out)
    go_wp2_with fail
    refine (CXX.out _ HWd.out).mono ?_
    rintro e we ⟨rfl, hbe⟩
    have HK : Hid (Below w1.heap.size w1 we) := HKd.out.trans (hbe.mono HKd.out.size)
    clear hbe HKd HWd x0 x1 x2 x3
    by_cases p1 : 0 < X
    · have hx2 : decide (X ≤ 0) = false := by simp; omega
      go_wp2_with fail
      go_meet
      case rel => exact ⟨rfl, HK.out⟩
    by_cases p2 : 0 < Y
    · have hx2 : decide (X ≤ 0) = true := by simp; omega
      have hy2 : decide (Y ≤ 0) = false := by simp; omega
      go_wp2_with fail
      go_meet
      case rel => exact ⟨rfl, HK.out⟩
    have ht := HTR.out (by omega) (by omega)
    by_cases p3 : Z < 0
    · have hx2 : decide (X ≤ 0) = true := by simp; omega
      have hy2 : decide (Y ≤ 0) = true := by simp; omega
      have hz2 : decide (0 < Z) = false := by simp; omega
      have hz3 : (Z == 0) = false := beq_eq_false_iff_ne.2 (by omega)
      clear ht
      go_wp2_with fail
      go_meet
      case rel => exact ⟨rfl, HK.out⟩
    · obtain rfl : Z = 0 := by omega
      obtain ⟨rfl, rfl⟩ := ht.2 rfl
      clear ht
      go_wp2_with fail
      go_meet
      case rel => exact ⟨rfl, HK.out⟩
  case rest =>
    obtain ⟨rfl, hkc⟩ := hcut
    have HKc : Hid (Below w1.heap.size w1 wc) := hkc
    have HWc : Hid (Below w.heap.size w wc) := HW1.out.trans (hkc.mono HW1.out.size)
    clear hkc HK HW CYX CXX
    go_upto_region 6 with fail
    go_cut [82] (fun s82 wx => s82 = .bool false ∧ Below w1.heap.size w1 wx)
    case first =>
      obtain ⟨x0, x1, x2, x3⟩ := box_cells (k := xk) (b := xb) (n := xn) (s := xs) ((HKc.out.block _ (by omega)).trans HX.out)
      obtain ⟨y0, y1, y2, y3⟩ := box_cells (k := yk) (b := yb) (n := yn) (s := ys) ((HKc.out.block _ (by omega)).trans HY.out)
      have szc : w.heap.size + 3 ≤ wc.heap.size := by have := HKc.out.size; omega
      have HKd : Hid (Below w1.heap.size w1 wc.drew) := HKc.out.drew
      have H1 : Hid (Below w.heap.size w wc.drew) := HWc.out.drew
      haveI : Inhabited (Later wc.heap.size wc) := ⟨⟨wc, Below.refl _ _⟩⟩
      have px0 : ∀ p : Later wc.heap.size wc, p.w.cell? ⟨w.heap.size, 0, none⟩ = some (.int .u8 xk) := fun p => by rw [p.h.cell (by simp; omega)]; exact x0
      have px1 : ∀ p : Later wc.heap.size wc, p.w.cell? ⟨w.heap.size, 1, none⟩ = some (.bool xb) := fun p => by rw [p.h.cell (by simp; omega)]; exact x1
      have px2 : ∀ p : Later wc.heap.size wc, p.w.cell? ⟨w.heap.size, 2, none⟩ = some (.int .i64 xn) := fun p => by rw [p.h.cell (by simp; omega)]; exact x2
      have px3 : ∀ p : Later wc.heap.size wc, p.w.cell? ⟨w.heap.size, 3, none⟩ = some (.string xs) := fun p => by rw [p.h.cell (by simp; omega)]; exact x3
      have py0 : ∀ p : Later wc.heap.size wc, p.w.cell? ⟨w.heap.size + 1, 0, none⟩ = some (.int .u8 yk) := fun p => by rw [p.h.cell (by simp; omega)]; exact y0
      have py1 : ∀ p : Later wc.heap.size wc, p.w.cell? ⟨w.heap.size + 1, 1, none⟩ = some (.bool yb) := fun p => by rw [p.h.cell (by simp; omega)]; exact y1
      have py2 : ∀ p : Later wc.heap.size wc, p.w.cell? ⟨w.heap.size + 1, 2, none⟩ = some (.int .i64 yn) := fun p => by rw [p.h.cell (by simp; omega)]; exact y2
      have py3 : ∀ p : Later wc.heap.size wc, p.w.cell? ⟨w.heap.size + 1, 3, none⟩ = some (.string ys) := fun p => by rw [p.h.cell (by simp; omega)]; exact y3
      by_cases hx : X = 0
      · subst hx
        have kx0 := KX.out
        have ky0 := KY.out
        have one := right_one ⟨xk, xb, xn, xs⟩ ⟨yk, yb, yn, ys⟩
        have vx := chk_vals ⟨xk, xb, xn, xs⟩
        have vy := chk_vals ⟨yk, yb, yn, ys⟩
        obtain ⟨cx, hcx⟩ : ∃ c, chkV ⟨xk, xb, xn, xs⟩ = c := ⟨_, rfl⟩
        obtain ⟨cy, hcy⟩ : ∃ c, chkV ⟨yk, yb, yn, ys⟩ = c := ⟨_, rfl⟩
        rw [hcx] at kx0 one vx
        rw [hcy] at ky0 one vy
        clear hcx hcy KX KY
        rcases vx with rfl | hvx
        · rcases vy with rfl | hvy
          · have e1 := one rfl rfl HAX.out
            obtain ⟨rfl, rfl, rfl, rfl⟩ := Val.mk.inj e1
            have K0 : Hid (∀ W, Below w.heap.size w W → Calls Tryd.prog 10 #[.agg #[.int .u8 xk, .bool xb, .int .i64 xn, .string xs]] W fun e w' => e = .returned (.int .i64 0) ∧ Below W.heap.size W w') := kx0
            have hq := fun W => neq_core xk xk xb xb xn xn xs xs W
            rw [show sameV ⟨xk, xb, xn, xs⟩ ⟨xk, xb, xn, xs⟩ = true from (sameV_iff _ _).2 rfl] at hq
            have sx0 := SX.out
            generalize hashV ⟨xk, xb, xn, xs⟩ = hsh at sx0
            have S0 : Hid (∀ W, Calls Tryd.prog 14 #[.agg #[.int .u8 xk, .bool xb, .int .i64 xn, .string xs]] W fun e w' => e = .returned (.int .u64 hsh) ∧ Below W.heap.size W w') := sx0
            clear kx0 ky0 one e1 sx0 SX
            refine wp_region_later mixedOn (by kernel_rfl) ?_
            repeat (go_big_quiet_step ((first | (go_at_call_of 10 (Value.agg #[.int .u8 xk, .bool xb, .int .i64 xn, .string xs]); exact calls_later (K0.out _ (HWc.out.trans (Below.mono (Later.h _) HWc.out.size)))) | (go_at_call_of 14 (Value.agg #[.int .u8 xk, .bool xb, .int .i64 xn, .string xs]); exact calls_later (S0.out _)))))
            refine wpQuiet_nil ?_
            intro _ hw'
            obtain ⟨⟨wq, hwq⟩, hw''⟩ := hw'
            subst hw''
            go_wp2_with fail
            go_meet
            case rel => exact ⟨rfl, HKc.out.trans (hwq.mono HKc.out.size)⟩
          · rcases hvy with rfl | rfl | rfl
            · have K0 : Hid (∀ W, Below w.heap.size w W → Calls Tryd.prog 10 #[.agg #[.int .u8 xk, .bool xb, .int .i64 xn, .string xs]] W fun e w' => e = .returned (.int .i64 0) ∧ Below W.heap.size W w') := kx0
              have K1 : Hid (∀ W, Below w.heap.size w W → Calls Tryd.prog 10 #[.agg #[.int .u8 yk, .bool yb, .int .i64 yn, .string ys]] W fun e w' => e = .returned (.int .i64 4) ∧ Below W.heap.size W w') := ky0
              clear kx0 ky0 one SX
              refine wp_region_later mixedOn (by kernel_rfl) ?_
              repeat (go_big_quiet_step ((first | (go_at_call_of 10 (Value.agg #[.int .u8 xk, .bool xb, .int .i64 xn, .string xs]); exact calls_later (K0.out _ (HWc.out.trans (Below.mono (Later.h _) HWc.out.size)))) | (go_at_call_of 10 (Value.agg #[.int .u8 yk, .bool yb, .int .i64 yn, .string ys]); exact calls_later (K1.out _ (HWc.out.trans (Below.mono (Later.h _) HWc.out.size)))))))
              refine wpQuiet_nil ?_
              intro _ hw'
              obtain ⟨⟨wq, hwq⟩, hw''⟩ := hw'
              subst hw''
              go_wp2_with fail
              go_meet
              case rel => exact ⟨rfl, HKc.out.trans (hwq.mono HKc.out.size)⟩
            · have K0 : Hid (∀ W, Below w.heap.size w W → Calls Tryd.prog 10 #[.agg #[.int .u8 xk, .bool xb, .int .i64 xn, .string xs]] W fun e w' => e = .returned (.int .i64 0) ∧ Below W.heap.size W w') := kx0
              have K1 : Hid (∀ W, Below w.heap.size w W → Calls Tryd.prog 10 #[.agg #[.int .u8 yk, .bool yb, .int .i64 yn, .string ys]] W fun e w' => e = .returned (.int .i64 5) ∧ Below W.heap.size W w') := ky0
              clear kx0 ky0 one SX
              refine wp_region_later mixedOn (by kernel_rfl) ?_
              repeat (go_big_quiet_step ((first | (go_at_call_of 10 (Value.agg #[.int .u8 xk, .bool xb, .int .i64 xn, .string xs]); exact calls_later (K0.out _ (HWc.out.trans (Below.mono (Later.h _) HWc.out.size)))) | (go_at_call_of 10 (Value.agg #[.int .u8 yk, .bool yb, .int .i64 yn, .string ys]); exact calls_later (K1.out _ (HWc.out.trans (Below.mono (Later.h _) HWc.out.size)))))))
              refine wpQuiet_nil ?_
              intro _ hw'
              obtain ⟨⟨wq, hwq⟩, hw''⟩ := hw'
              subst hw''
              go_wp2_with fail
              go_meet
              case rel => exact ⟨rfl, HKc.out.trans (hwq.mono HKc.out.size)⟩
            · have K0 : Hid (∀ W, Below w.heap.size w W → Calls Tryd.prog 10 #[.agg #[.int .u8 xk, .bool xb, .int .i64 xn, .string xs]] W fun e w' => e = .returned (.int .i64 0) ∧ Below W.heap.size W w') := kx0
              have K1 : Hid (∀ W, Below w.heap.size w W → Calls Tryd.prog 10 #[.agg #[.int .u8 yk, .bool yb, .int .i64 yn, .string ys]] W fun e w' => e = .returned (.int .i64 9) ∧ Below W.heap.size W w') := ky0
              clear kx0 ky0 one SX
              refine wp_region_later mixedOn (by kernel_rfl) ?_
              repeat (go_big_quiet_step ((first | (go_at_call_of 10 (Value.agg #[.int .u8 xk, .bool xb, .int .i64 xn, .string xs]); exact calls_later (K0.out _ (HWc.out.trans (Below.mono (Later.h _) HWc.out.size)))) | (go_at_call_of 10 (Value.agg #[.int .u8 yk, .bool yb, .int .i64 yn, .string ys]); exact calls_later (K1.out _ (HWc.out.trans (Below.mono (Later.h _) HWc.out.size)))))))
              refine wpQuiet_nil ?_
              intro _ hw'
              obtain ⟨⟨wq, hwq⟩, hw''⟩ := hw'
              subst hw''
              go_wp2_with fail
              go_meet
              case rel => exact ⟨rfl, HKc.out.trans (hwq.mono HKc.out.size)⟩
        · rcases hvx with rfl | rfl | rfl
          · have K0 : Hid (∀ W, Below w.heap.size w W → Calls Tryd.prog 10 #[.agg #[.int .u8 xk, .bool xb, .int .i64 xn, .string xs]] W fun e w' => e = .returned (.int .i64 4) ∧ Below W.heap.size W w') := kx0
            clear kx0 ky0 one vy SX
            refine wp_region_later mixedOn (by kernel_rfl) ?_
            repeat (go_big_quiet_step ((go_at_call_of 10 (Value.agg #[.int .u8 xk, .bool xb, .int .i64 xn, .string xs]); exact calls_later (K0.out _ (HWc.out.trans (Below.mono (Later.h _) HWc.out.size))))))
            refine wpQuiet_nil ?_
            intro _ hw'
            obtain ⟨⟨wq, hwq⟩, hw''⟩ := hw'
            subst hw''
            go_wp2_with fail
            go_meet
            case rel => exact ⟨rfl, HKc.out.trans (hwq.mono HKc.out.size)⟩
          · have K0 : Hid (∀ W, Below w.heap.size w W → Calls Tryd.prog 10 #[.agg #[.int .u8 xk, .bool xb, .int .i64 xn, .string xs]] W fun e w' => e = .returned (.int .i64 5) ∧ Below W.heap.size W w') := kx0
            clear kx0 ky0 one vy SX
            refine wp_region_later mixedOn (by kernel_rfl) ?_
            repeat (go_big_quiet_step ((go_at_call_of 10 (Value.agg #[.int .u8 xk, .bool xb, .int .i64 xn, .string xs]); exact calls_later (K0.out _ (HWc.out.trans (Below.mono (Later.h _) HWc.out.size))))))
            refine wpQuiet_nil ?_
            intro _ hw'
            obtain ⟨⟨wq, hwq⟩, hw''⟩ := hw'
            subst hw''
            go_wp2_with fail
            go_meet
            case rel => exact ⟨rfl, HKc.out.trans (hwq.mono HKc.out.size)⟩
          · have K0 : Hid (∀ W, Below w.heap.size w W → Calls Tryd.prog 10 #[.agg #[.int .u8 xk, .bool xb, .int .i64 xn, .string xs]] W fun e w' => e = .returned (.int .i64 9) ∧ Below W.heap.size W w') := kx0
            clear kx0 ky0 one vy SX
            refine wp_region_later mixedOn (by kernel_rfl) ?_
            repeat (go_big_quiet_step ((go_at_call_of 10 (Value.agg #[.int .u8 xk, .bool xb, .int .i64 xn, .string xs]); exact calls_later (K0.out _ (HWc.out.trans (Below.mono (Later.h _) HWc.out.size))))))
            refine wpQuiet_nil ?_
            intro _ hw'
            obtain ⟨⟨wq, hwq⟩, hw''⟩ := hw'
            subst hw''
            go_wp2_with fail
            go_meet
            case rel => exact ⟨rfl, HKc.out.trans (hwq.mono HKc.out.size)⟩
      · have hx0 : (X == 0) = false := beq_eq_false_iff_ne.2 hx
        go_quiet (fail)
        go_wp2_with fail
        go_meet
        case rel => exact ⟨rfl, below_drewN HKc.out _⟩
    case rest =>
      obtain ⟨rfl, hkc⟩ := hcut
      have HKe : Hid (Below w1.heap.size w1 wc) := hkc
      have HWe : Hid (Below w.heap.size w wc) := HW1.out.trans (hkc.mono HW1.out.size)
      have szc : w.heap.size + 3 ≤ wc.heap.size := by have := hkc.size; omega
      clear hkc HKc HWc KX KY SX
      obtain ⟨x0, x1, x2, x3⟩ := box_cells (k := xk) (b := xb) (n := xn) (s := xs) ((HKe.out.block _ (by omega)).trans HX.out)
      obtain ⟨y0, y1, y2, y3⟩ := box_cells (k := yk) (b := yb) (n := yn) (s := ys) ((HKe.out.block _ (by omega)).trans HY.out)
      obtain ⟨z0, z1, z2, z3⟩ := box_cells (k := zk) (b := zb) (n := zn) (s := zs) ((HKe.out.block _ (by omega)).trans HZ.out)
      go_upto_region 8 with fail
      go_cut [10, 11] (fun s10 s11 wx => ∃ br bs, s10 = .slice (some ⟨br, 0, none⟩) 2 2 ∧ s11 = .slice (some ⟨bs, 0, none⟩) 2 2 ∧ (RowIs wx br 0 [⟨xk, xb, xn, xs⟩, ⟨yk, yb, yn, ys⟩] ∧ br < wx.heap.size) ∧ (RowIs wx bs 0 [⟨xk, xb, xn, xs⟩, ⟨zk, zb, zn, zs⟩] ∧ bs < wx.heap.size) ∧ Below w.heap.size w wx)
      case first =>
        have nx0 : ∀ o, (wc.alloc o).cell? ⟨w.heap.size, 0, none⟩ = some (.int .u8 xk) := fun o => cell_new wc o _ _ (by simp; omega) x0
        have nx1 : ∀ o, (wc.alloc o).cell? ⟨w.heap.size, 1, none⟩ = some (.bool xb) := fun o => cell_new wc o _ _ (by simp; omega) x1
        have nx2 : ∀ o, (wc.alloc o).cell? ⟨w.heap.size, 2, none⟩ = some (.int .i64 xn) := fun o => cell_new wc o _ _ (by simp; omega) x2
        have nx3 : ∀ o, (wc.alloc o).cell? ⟨w.heap.size, 3, none⟩ = some (.string xs) := fun o => cell_new wc o _ _ (by simp; omega) x3
        have ny0 : ∀ o, (wc.alloc o).cell? ⟨w.heap.size + 1, 0, none⟩ = some (.int .u8 yk) := fun o => cell_new wc o _ _ (by simp; omega) y0
        have ny1 : ∀ o, (wc.alloc o).cell? ⟨w.heap.size + 1, 1, none⟩ = some (.bool yb) := fun o => cell_new wc o _ _ (by simp; omega) y1
        have ny2 : ∀ o, (wc.alloc o).cell? ⟨w.heap.size + 1, 2, none⟩ = some (.int .i64 yn) := fun o => cell_new wc o _ _ (by simp; omega) y2
        have ny3 : ∀ o, (wc.alloc o).cell? ⟨w.heap.size + 1, 3, none⟩ = some (.string ys) := fun o => cell_new wc o _ _ (by simp; omega) y3
        have nz0 : ∀ o, (wc.alloc o).cell? ⟨w.heap.size + 1 + 1, 0, none⟩ = some (.int .u8 zk) := fun o => cell_new wc o _ _ (by simp; omega) z0
        have nz1 : ∀ o, (wc.alloc o).cell? ⟨w.heap.size + 1 + 1, 1, none⟩ = some (.bool zb) := fun o => cell_new wc o _ _ (by simp; omega) z1
        have nz2 : ∀ o, (wc.alloc o).cell? ⟨w.heap.size + 1 + 1, 2, none⟩ = some (.int .i64 zn) := fun o => cell_new wc o _ _ (by simp; omega) z2
        have nz3 : ∀ o, (wc.alloc o).cell? ⟨w.heap.size + 1 + 1, 3, none⟩ = some (.string zs) := fun o => cell_new wc o _ _ (by simp; omega) z3
        have bel : ∀ o1 o2, Below w.heap.size w ((wc.alloc o1).alloc o2).drew := fun o1 o2 => HWe.out.trans ((below_drewN (below_two (w := wc) o1 o2) 1).mono HWe.out.size)
        have BEL : Hid (∀ o1 o2, Below w.heap.size w ((wc.alloc o1).alloc o2).drew) := bel
        clear bel
        go_region
        all_goals go_wp2_with fail
        all_goals go_meet
        · exact ⟨_, _, rfl, rfl, row_pair (x := ⟨xk, xb, xn, xs⟩) (y := ⟨yk, yb, yn, ys⟩) (pair_heap _ _ _).1, row_pair (x := ⟨xk, xb, xn, xs⟩) (y := ⟨zk, zb, zn, zs⟩) (pair_heap _ _ _).2, BEL.out _ _⟩
        · exact ⟨_, _, rfl, rfl, row_pair (x := ⟨xk, xb, xn, xs⟩) (y := ⟨yk, yb, yn, ys⟩) (pair_heap _ _ _).2, row_pair (x := ⟨xk, xb, xn, xs⟩) (y := ⟨zk, zb, zn, zs⟩) (pair_heap _ _ _).1, BEL.out _ _⟩
      case rest =>
        obtain ⟨br, bs, rfl, rfl, ⟨rx, hbr⟩, ⟨ry, hbs⟩, hbw⟩ := hcut
        have HWf : Hid (Below w.heap.size w wc) := hbw
        have hxx : cmpV ⟨xk, xb, xn, xs⟩ ⟨xk, xb, xn, xs⟩ = 0 := by have := pc_val.anti ⟨xk, xb, xn, xs⟩ ⟨xk, xb, xn, xs⟩; omega
        have l1 := lex_pair ⟨xk, xb, xn, xs⟩ ⟨yk, yb, yn, ys⟩ ⟨zk, zb, zn, zs⟩ hxx
        have l2 := lex_pair ⟨xk, xb, xn, xs⟩ ⟨zk, zb, zn, zs⟩ ⟨yk, yb, yn, ys⟩ hxx
        have l3 := lex_short ⟨xk, xb, xn, xs⟩ ⟨yk, yb, yn, ys⟩ hxx
        rw [pc_val.anti ⟨yk, yb, yn, ys⟩ ⟨zk, zb, zn, zs⟩] at l2
        rw [HAY.out] at l1 l2
        have r1 : ∀ W, Below wc.heap.size wc W → Calls Tryd.prog 36 #[.slice (some ⟨br, 0, none⟩) 2 2, .slice (some ⟨bs, 0, none⟩) 2 2] W fun e w' => e = .returned (.int .i64 Y) ∧ Below W.heap.size W w' := fun W h => by
          rw [← l1]
          exact compareRows_any _ _ _ _ W ⟨by simp, .inr ⟨br, 0, 2, rfl, rx.below hbr h, Nat.lt_of_lt_of_le hbr h.size⟩⟩ ⟨by simp, .inr ⟨bs, 0, 2, rfl, ry.below hbs h, Nat.lt_of_lt_of_le hbs h.size⟩⟩ (Utf8Tabs_below HT.out (hbw.trans (h.mono hbw.size)))
        have r2 : ∀ W, Below wc.heap.size wc W → Calls Tryd.prog 36 #[.slice (some ⟨bs, 0, none⟩) 2 2, .slice (some ⟨br, 0, none⟩) 2 2] W fun e w' => e = .returned (.int .i64 (-Y)) ∧ Below W.heap.size W w' := fun W h => by
          rw [← l2]
          exact compareRows_any _ _ _ _ W ⟨by simp, .inr ⟨bs, 0, 2, rfl, ry.below hbs h, Nat.lt_of_lt_of_le hbs h.size⟩⟩ ⟨by simp, .inr ⟨br, 0, 2, rfl, rx.below hbr h, Nat.lt_of_lt_of_le hbr h.size⟩⟩ (Utf8Tabs_below HT.out (hbw.trans (h.mono hbw.size)))
        have r3 : ∀ W, Below wc.heap.size wc W → Calls Tryd.prog 36 #[.slice (some ⟨br, 0, none⟩) 2 2, .slice (some ⟨br, 0, none⟩) 1 2] W fun e w' => e = .returned (.int .i64 1) ∧ Below W.heap.size W w' := fun W h => by
          rw [← l3]
          exact compareRows_any _ _ _ _ W ⟨by simp, .inr ⟨br, 0, 2, rfl, rx.below hbr h, Nat.lt_of_lt_of_le hbr h.size⟩⟩ ⟨by simp, .inr ⟨br, 0, 2, rfl, rx.first.below hbr h, Nat.lt_of_lt_of_le hbr h.size⟩⟩ (Utf8Tabs_below HT.out (hbw.trans (h.mono hbw.size)))
        have R1 : Hid (∀ W, Below wc.heap.size wc W → Calls Tryd.prog 36 #[.slice (some ⟨br, 0, none⟩) 2 2, .slice (some ⟨bs, 0, none⟩) 2 2] W fun e w' => e = .returned (.int .i64 Y) ∧ Below W.heap.size W w') := r1
        have R2 : Hid (∀ W, Below wc.heap.size wc W → Calls Tryd.prog 36 #[.slice (some ⟨bs, 0, none⟩) 2 2, .slice (some ⟨br, 0, none⟩) 2 2] W fun e w' => e = .returned (.int .i64 (-Y)) ∧ Below W.heap.size W w') := r2
        have R3 : Hid (∀ W, Below wc.heap.size wc W → Calls Tryd.prog 36 #[.slice (some ⟨br, 0, none⟩) 2 2, .slice (some ⟨br, 0, none⟩) 1 2] W fun e w' => e = .returned (.int .i64 1) ∧ Below W.heap.size W w') := r3
        have tY : (Y == Y) = true := by simp
        have tN : (-Y == -Y) = true := by simp
        clear r1 r2 r3 l1 l2 l3 hxx rx ry hbr hbs hbw x0 x1 x2 x3 y0 y1 y2 y3 z0 z1 z2 z3
        go_wp2_with fail
        refine (R1.out _ (Below.refl _ _)).mono ?_
        rintro e wd ⟨rfl, hbd⟩
        have HD : Hid (Below wc.heap.size wc wd) := hbd
        clear hbd
        go_wp2_with fail
        refine (R2.out _ HD.out).mono ?_
        rintro e wf ⟨rfl, hbf⟩
        have HF : Hid (Below wc.heap.size wc wf) := HD.out.trans (hbf.mono HD.out.size)
        clear hbf
        go_wp2_with fail
        refine (R3.out _ HF.out).mono ?_
        rintro e wg ⟨rfl, hbg⟩
        have HG : Hid (Below wc.heap.size wc wg) := HF.out.trans (hbg.mono HF.out.size)
        clear hbg
        go_wp2
        go_ret
        exact ⟨rfl, HWf.out.trans (HG.out.mono HWf.out.size)⟩
end Go.Proofs.YtbhpocjgbccpnaaDoor
