/- Lists that are one: what the reference's Ints, Texts, SameSteps, SameRow, sameCols and Same answer. -/
import Derived.Test.YtajomnfeicfdlaaGreatDoorNaNbNcNd
import Derived.Test.YtajomnfeicfdlaaGreatDoorOrOs
import Derived.Test.YtajomnfeicfdlaaGreatDoorMc
namespace Go.Proofs.YtajomnfeicfdlaaGreatDoor
open Go.Shelf Go.RowKit Go.Lib
set_option linter.unusedVariables false
set_option linter.unusedSimpArgs false
attribute [local go_sem ↓] Go.wp_at_zero Go.wp_at_succ
theorem kept_of {K : Nat → Prop} {W W' : World} (hK : ∀ b, K b → b < W.heap.size) (h : Below W.heap.size W W') : Kept K W W' := ⟨h.os, h.tape, h.output, h.size, fun b hb => h.block b (hK b hb)⟩
theorem below_drewN {B : Nat} {a w : World} (h : Below B a w) (n : Nat) : Below B a (w.drewN n) := ⟨h.os, h.tape, h.output, h.size, h.block⟩
theorem run_step_eq (k n : Int) (t : ByteArray) (w : World) :
  (binOp .neq 137 (.agg #[.int .u8 k, .string t, .int .i64 n]) (.agg #[.int .u8 k, .string t, .int .i64 n])).run Tryz.prog w = .ok (.bool false) w := by
 have h : (binOp .eql 137 (.agg #[.int .u8 k, .string t, .int .i64 n]) (.agg #[.int .u8 k, .string t, .int .i64 n])).run Tryz.prog w = .ok (.bool true) w := by
  have hS : Tryz.prog.underlying 137 = some (.struct (Tryz.prog.fieldsOf 137)) := by kernel_rfl
  have hp : Tryz.prog.stoodInHeld 137 = false := by kernel_rfl
  have u3 := Tryz.underlying3; have a3 := Tryz.isAgg3; have z3 := Tryz.sizeOf3
  have u9 := Tryz.underlying9; have a9 := Tryz.isAgg9; have z9 := Tryz.sizeOf9
  have u1 := Tryz.underlying135; have a1 := Tryz.isAgg135; have z1 := Tryz.sizeOf135
  have u2 := Tryz.underlying2; have a2 := Tryz.isAgg2; have z2 := Tryz.sizeOf2
  rw [run_eql_struct, show (10000 : Nat) = 9999 + 1 from rfl, run_equalIn_struct w 9999 137 _ _ hS hp]
  simp only [Program.fieldsOf, Tryz.underlying137]
  go_simp
 simp only [binOp, Sem.run_bind] at h ⊢
 generalize (Op.equal 137 (.agg #[.int .u8 k, .string t, .int .i64 n]) (.agg #[.int .u8 k, .string t, .int .i64 n])).run Tryz.prog w = r at h ⊢
 cases r <;> simp_all
theorem run_col_eq (k : Int) (t : ByteArray) (w : World) :
  (binOp .neq 150 (.agg #[.string t, .int .u8 k]) (.agg #[.string t, .int .u8 k])).run Tryz.prog w = .ok (.bool false) w := by
 have h : (binOp .eql 150 (.agg #[.string t, .int .u8 k]) (.agg #[.string t, .int .u8 k])).run Tryz.prog w = .ok (.bool true) w := by
  have hS : Tryz.prog.underlying 150 = some (.struct (Tryz.prog.fieldsOf 150)) := by kernel_rfl
  have hp : Tryz.prog.stoodInHeld 150 = false := by kernel_rfl
  have u9 := Tryz.underlying9; have a9 := Tryz.isAgg9; have z9 := Tryz.sizeOf9
  have u1 := Tryz.underlying146; have a1 := Tryz.isAgg146; have z1 := Tryz.sizeOf146
  rw [run_eql_struct, show (10000 : Nat) = 9999 + 1 from rfl, run_equalIn_struct w 9999 150 _ _ hS hp]
  simp only [Program.fieldsOf, Tryz.underlying150]
  go_simp
 simp only [binOp, Sem.run_bind] at h ⊢
 generalize (Op.equal 150 (.agg #[.string t, .int .u8 k]) (.agg #[.string t, .int .u8 k])).run Tryz.prog w = r at h ⊢
 cases r <;> simp_all
theorem run_val_eq (k n : Int) (b : Bool) (s : ByteArray) (w : World) :
  (binOp .neq 184 (.agg #[.int .u8 k, .bool b, .int .i64 n, .string s]) (.agg #[.int .u8 k, .bool b, .int .i64 n, .string s])).run Tryz.prog w = .ok (.bool false) w := by
 have h : (binOp .eql 184 (.agg #[.int .u8 k, .bool b, .int .i64 n, .string s]) (.agg #[.int .u8 k, .bool b, .int .i64 n, .string s])).run Tryz.prog w = .ok (.bool true) w := by
  have hS : Tryz.prog.underlying 184 = some (.struct (Tryz.prog.fieldsOf 184)) := by kernel_rfl
  have hp : Tryz.prog.stoodInHeld 184 = false := by kernel_rfl
  have u9 := Tryz.underlying9; have a9 := Tryz.isAgg9; have z9 := Tryz.sizeOf9
  have u1 := Tryz.underlying146; have a1 := Tryz.isAgg146; have z1 := Tryz.sizeOf146
  have u2 := Tryz.underlying2; have a2 := Tryz.isAgg2; have z2 := Tryz.sizeOf2
  have u4 := Tryz.underlying4; have a4 := Tryz.isAgg4; have z4 := Tryz.sizeOf4
  rw [run_eql_struct, show (10000 : Nat) = 9999 + 1 from rfl, run_equalIn_struct w 9999 184 _ _ hS hp]
  simp only [Program.fieldsOf, Tryz.underlying184]
  go_simp
 simp only [binOp, Sem.run_bind] at h ⊢
 generalize (Op.equal 184 (.agg #[.int .u8 k, .bool b, .int .i64 n, .string s]) (.agg #[.int .u8 k, .bool b, .int .i64 n, .string s])).run Tryz.prog w = r at h ⊢
 cases r <;> simp_all
/-- A list of which K is kept, later. -/
theorem ListIs.later {α : Type} {rel : Rel α} (hm : Mono rel) {size bytes : Nat} {K : Nat → Prop} {W W' : World} {v : Value} {xs : List α} (h : ListIs rel size bytes K W v xs) (hK : ∀ b, K b → b < W.heap.size) (hb : Below W.heap.size W W') : ListIs rel size bytes K W' v xs := h.mono hm (fun _ h => h) (kept_of hK hb)
set_option maxRecDepth 100000 in
set_option maxHeartbeats 2000000 in
theorem ints_eq (va vb : Value) (xs : List Int) (K L : Nat → Prop) (w : World) (h : ListIs rInt 1 8 K w va xs) (h' : ListIs rInt 1 8 L w vb xs) (hK : ∀ b, K b → b < w.heap.size) (hL : ∀ b, L b → b < w.heap.size) :
  Calls Tryz.prog 85 #[va, vb] w fun e w' => e = .returned (.bool true) ∧ Below w.heap.size w w' := by
 obtain ⟨p, c, rfl, hby, hp⟩ := h
 obtain ⟨q, d, rfl, _, hq⟩ := h'
 have HP : Hid _ := hp
 have HQ : Hid _ := hq
 have t3 : ((xs.length : Int) != (xs.length : Int)) = false := by simp
 have HKK : Hid (∀ b, K b → b < w.heap.size) := hK
 have HLL : Hid (∀ b, L b → b < w.heap.size) := hL
 clear hp hq hK hL
 go_enter Tryz.func85, Tryz.ntmps85
 go_wp2_with fail
 go_loopg [13] xs.length (fun gf s30 wx => ∃ i : Nat, s30 = .int .i64 i ∧ i ≤ xs.length ∧ xs.length ≤ i + gf ∧ Hid (Below w.heap.size w wx))
 case atStart => exact ⟨0, rfl, by omega, by omega, Below.refl _ _⟩
 case round =>
  obtain ⟨i, rfl, hi1, hgf, HB⟩ := hrel
  by_cases hi : i < xs.length
  ·obtain ⟨g', rfl⟩ : ∃ g', gk = g' + 1 := ⟨gk - 1, by omega⟩
   obtain ⟨b, o, rfl, hKb, hc⟩ := HP.out (by omega)
   obtain ⟨b', o', rfl, hLb, hc'⟩ := HQ.out (by omega)
   obtain ⟨cs, hcl, hcell, hrel1⟩ := hc i hi
   obtain ⟨ds, hdl, hdell, hrel2⟩ := hc' i hi
   obtain ⟨x, hx⟩ : ∃ x, xs[i] = x := ⟨_, rfl⟩
   rw [hx] at hrel1 hrel2
   have hcs := hrel1.1
   have hds := hrel2.1
   have hcell2 : ∀ j u, cs[j]? = some u → wr.cell? ⟨b, o + i * 1 + j, none⟩ = some u := fun j u hj => by rw [HB.out.cell (p := ⟨b, _, none⟩) (HKK.out _ hKb)]; exact hcell j u hj
   have hdell2 : ∀ j u, ds[j]? = some u → wr.cell? ⟨b', o' + i * 1 + j, none⟩ = some u := fun j u hj => by rw [HB.out.cell (p := ⟨b', _, none⟩) (HLL.out _ hLb)]; exact hdell j u hj
   rw [hcs] at hcell2
   rw [hds] at hdell2
   have c0 := hcell2 0 _ rfl
   have e0 := hdell2 0 _ rfl
   simp only [Nat.add_zero, Nat.mul_one] at c0 e0
   have z0 : (0 : Int) ≤ (i : Int) := by omega
   have z1 : (i : Int) < (xs.length : Int) := by omega
   have hbw := HB.out
   clear hc hc' hcell hdell hcell2 hdell2 hrel1 hrel2 hx HB hcl hdl hKb hLb hcs hds
   have hne : (x != x) = false := by simp
   go_wp2_with fail
   go_quiet (fail)
   go_wp2_with fail
   go_roundg g'
   case measure => omega
   case rel => exact ⟨i + 1, by go_num, by omega, by omega, below_drewN hbw _⟩
  ·have z1 : ¬ (i : Int) < (xs.length : Int) := by omega
   have HB2 : Hid (Below w.heap.size w wr) := HB.out
   clear HB
   go_wp2_with fail
   go_ret
   exact ⟨rfl, HB2.out⟩
set_option maxRecDepth 100000 in
set_option maxHeartbeats 2000000 in
theorem texts_eq (va vb : Value) (xs : List ByteArray) (K L : Nat → Prop) (w : World) (h : ListIs rTxt 1 16 K w va xs) (h' : ListIs rTxt 1 16 L w vb xs) (hK : ∀ b, K b → b < w.heap.size) (hL : ∀ b, L b → b < w.heap.size) :
  Calls Tryz.prog 83 #[va, vb] w fun e w' => e = .returned (.bool true) ∧ Below w.heap.size w w' := by
 obtain ⟨p, c, rfl, hby, hp⟩ := h
 obtain ⟨q, d, rfl, _, hq⟩ := h'
 have HP : Hid _ := hp
 have HQ : Hid _ := hq
 have t3 : ((xs.length : Int) != (xs.length : Int)) = false := by simp
 have HKK : Hid (∀ b, K b → b < w.heap.size) := hK
 have HLL : Hid (∀ b, L b → b < w.heap.size) := hL
 clear hp hq hK hL
 go_enter Tryz.func83, Tryz.ntmps83
 go_wp2_with fail
 go_loopg [13] xs.length (fun gf s30 wx => ∃ i : Nat, s30 = .int .i64 i ∧ i ≤ xs.length ∧ xs.length ≤ i + gf ∧ Hid (Below w.heap.size w wx))
 case atStart => exact ⟨0, rfl, by omega, by omega, Below.refl _ _⟩
 case round =>
  obtain ⟨i, rfl, hi1, hgf, HB⟩ := hrel
  by_cases hi : i < xs.length
  ·obtain ⟨g', rfl⟩ : ∃ g', gk = g' + 1 := ⟨gk - 1, by omega⟩
   obtain ⟨b, o, rfl, hKb, hc⟩ := HP.out (by omega)
   obtain ⟨b', o', rfl, hLb, hc'⟩ := HQ.out (by omega)
   obtain ⟨cs, hcl, hcell, hrel1⟩ := hc i hi
   obtain ⟨ds, hdl, hdell, hrel2⟩ := hc' i hi
   obtain ⟨x, hx⟩ : ∃ x, xs[i] = x := ⟨_, rfl⟩
   rw [hx] at hrel1 hrel2
   have hcs := hrel1.1
   have hds := hrel2.1
   have hcell2 : ∀ j u, cs[j]? = some u → wr.cell? ⟨b, o + i * 1 + j, none⟩ = some u := fun j u hj => by rw [HB.out.cell (p := ⟨b, _, none⟩) (HKK.out _ hKb)]; exact hcell j u hj
   have hdell2 : ∀ j u, ds[j]? = some u → wr.cell? ⟨b', o' + i * 1 + j, none⟩ = some u := fun j u hj => by rw [HB.out.cell (p := ⟨b', _, none⟩) (HLL.out _ hLb)]; exact hdell j u hj
   rw [hcs] at hcell2
   rw [hds] at hdell2
   have c0 := hcell2 0 _ rfl
   have e0 := hdell2 0 _ rfl
   simp only [Nat.add_zero, Nat.mul_one] at c0 e0
   have z0 : (0 : Int) ≤ (i : Int) := by omega
   have z1 : (i : Int) < (xs.length : Int) := by omega
   have hbw := HB.out
   clear hc hc' hcell hdell hcell2 hdell2 hrel1 hrel2 hx HB hcl hdl hKb hLb hcs hds
   go_wp2_with fail
   go_quiet (fail)
   go_wp2_with fail
   go_roundg g'
   case measure => omega
   case rel => exact ⟨i + 1, by go_num, by omega, by omega, below_drewN hbw _⟩
  ·have z1 : ¬ (i : Int) < (xs.length : Int) := by omega
   have HB2 : Hid (Below w.heap.size w wr) := HB.out
   clear HB
   go_wp2_with fail
   go_ret
   exact ⟨rfl, HB2.out⟩
set_option maxRecDepth 100000 in
set_option maxHeartbeats 2000000 in
theorem steps_eq (va vb : Value) (xs : List Stp) (K L : Nat → Prop) (w : World) (h : ListIs rStp 3 32 K w va xs) (h' : ListIs rStp 3 32 L w vb xs) (hK : ∀ b, K b → b < w.heap.size) (hL : ∀ b, L b → b < w.heap.size) :
  Calls Tryz.prog 82 #[va, vb] w fun e w' => e = .returned (.bool true) ∧ Below w.heap.size w w' := by
 obtain ⟨p, c, rfl, hby, hp⟩ := h
 obtain ⟨q, d, rfl, _, hq⟩ := h'
 have HP : Hid _ := hp
 have HQ : Hid _ := hq
 have t3 : ((xs.length : Int) != (xs.length : Int)) = false := by simp
 have HKK : Hid (∀ b, K b → b < w.heap.size) := hK
 have HLL : Hid (∀ b, L b → b < w.heap.size) := hL
 clear hp hq hK hL
 go_enter Tryz.func82, Tryz.ntmps82
 go_wp2_with fail
 go_loopg [13] xs.length (fun gf s30 wx => ∃ i : Nat, s30 = .int .i64 i ∧ i ≤ xs.length ∧ xs.length ≤ i + gf ∧ Hid (Below w.heap.size w wx))
 case atStart => exact ⟨0, rfl, by omega, by omega, Below.refl _ _⟩
 case round =>
  obtain ⟨i, rfl, hi1, hgf, HB⟩ := hrel
  by_cases hi : i < xs.length
  ·obtain ⟨g', rfl⟩ : ∃ g', gk = g' + 1 := ⟨gk - 1, by omega⟩
   obtain ⟨b, o, rfl, hKb, hc⟩ := HP.out (by omega)
   obtain ⟨b', o', rfl, hLb, hc'⟩ := HQ.out (by omega)
   obtain ⟨cs, hcl, hcell, hrel1⟩ := hc i hi
   obtain ⟨ds, hdl, hdell, hrel2⟩ := hc' i hi
   obtain ⟨x, hx⟩ : ∃ x, xs[i] = x := ⟨_, rfl⟩
   rw [hx] at hrel1 hrel2
   have hcs := hrel1.1
   have hds := hrel2.1
   have hcell2 : ∀ j u, cs[j]? = some u → wr.cell? ⟨b, o + i * 3 + j, none⟩ = some u := fun j u hj => by rw [HB.out.cell (p := ⟨b, _, none⟩) (HKK.out _ hKb)]; exact hcell j u hj
   have hdell2 : ∀ j u, ds[j]? = some u → wr.cell? ⟨b', o' + i * 3 + j, none⟩ = some u := fun j u hj => by rw [HB.out.cell (p := ⟨b', _, none⟩) (HLL.out _ hLb)]; exact hdell j u hj
   rw [hcs] at hcell2
   rw [hds] at hdell2
   have c0 := hcell2 0 _ rfl
   have e0 := hdell2 0 _ rfl
   have c1 := hcell2 1 _ rfl
   have e1 := hdell2 1 _ rfl
   have c2 := hcell2 2 _ rfl
   have e2 := hdell2 2 _ rfl
   simp only [Nat.add_zero, Nat.mul_one] at c0 e0
   have z0 : (0 : Int) ≤ (i : Int) := by omega
   have z1 : (i : Int) < (xs.length : Int) := by omega
   have hbw := HB.out
   clear hc hc' hcell hdell hcell2 hdell2 hrel1 hrel2 hx HB hcl hdl hKb hLb hcs hds
   have hne := run_step_eq (x.k : Int) x.n x.t
   go_wp2_with fail
   go_quiet (fail)
   go_wp2_with fail
   go_roundg g'
   case measure => omega
   case rel => exact ⟨i + 1, by go_num, by omega, by omega, below_drewN hbw _⟩
  ·have z1 : ¬ (i : Int) < (xs.length : Int) := by omega
   have HB2 : Hid (Below w.heap.size w wr) := HB.out
   clear HB
   go_wp2_with fail
   go_ret
   exact ⟨rfl, HB2.out⟩
set_option maxRecDepth 100000 in
set_option maxHeartbeats 2000000 in
theorem row_eq (va vb : Value) (xs : List Val) (K L : Nat → Prop) (w : World) (h : ListIs rVal 4 32 K w va xs) (h' : ListIs rVal 4 32 L w vb xs) (hK : ∀ b, K b → b < w.heap.size) (hL : ∀ b, L b → b < w.heap.size) :
  Calls Tryz.prog 81 #[va, vb] w fun e w' => e = .returned (.bool true) ∧ Below w.heap.size w w' := by
 obtain ⟨p, c, rfl, hby, hp⟩ := h
 obtain ⟨q, d, rfl, _, hq⟩ := h'
 have HP : Hid _ := hp
 have HQ : Hid _ := hq
 have t3 : ((xs.length : Int) != (xs.length : Int)) = false := by simp
 have HKK : Hid (∀ b, K b → b < w.heap.size) := hK
 have HLL : Hid (∀ b, L b → b < w.heap.size) := hL
 clear hp hq hK hL
 go_enter Tryz.func81, Tryz.ntmps81
 go_wp2_with fail
 go_loopg [13] xs.length (fun gf s30 wx => ∃ i : Nat, s30 = .int .i64 i ∧ i ≤ xs.length ∧ xs.length ≤ i + gf ∧ Hid (Below w.heap.size w wx))
 case atStart => exact ⟨0, rfl, by omega, by omega, Below.refl _ _⟩
 case round =>
  obtain ⟨i, rfl, hi1, hgf, HB⟩ := hrel
  by_cases hi : i < xs.length
  ·obtain ⟨g', rfl⟩ : ∃ g', gk = g' + 1 := ⟨gk - 1, by omega⟩
   obtain ⟨b, o, rfl, hKb, hc⟩ := HP.out (by omega)
   obtain ⟨b', o', rfl, hLb, hc'⟩ := HQ.out (by omega)
   obtain ⟨cs, hcl, hcell, hrel1⟩ := hc i hi
   obtain ⟨ds, hdl, hdell, hrel2⟩ := hc' i hi
   obtain ⟨x, hx⟩ : ∃ x, xs[i] = x := ⟨_, rfl⟩
   rw [hx] at hrel1 hrel2
   have hcs := hrel1.1
   have hds := hrel2.1
   have hcell2 : ∀ j u, cs[j]? = some u → wr.cell? ⟨b, o + i * 4 + j, none⟩ = some u := fun j u hj => by rw [HB.out.cell (p := ⟨b, _, none⟩) (HKK.out _ hKb)]; exact hcell j u hj
   have hdell2 : ∀ j u, ds[j]? = some u → wr.cell? ⟨b', o' + i * 4 + j, none⟩ = some u := fun j u hj => by rw [HB.out.cell (p := ⟨b', _, none⟩) (HLL.out _ hLb)]; exact hdell j u hj
   rw [hcs] at hcell2
   rw [hds] at hdell2
   have c0 := hcell2 0 _ rfl
   have e0 := hdell2 0 _ rfl
   have c1 := hcell2 1 _ rfl
   have e1 := hdell2 1 _ rfl
   have c2 := hcell2 2 _ rfl
   have e2 := hdell2 2 _ rfl
   have c3 := hcell2 3 _ rfl
   have e3 := hdell2 3 _ rfl
   simp only [Nat.add_zero, Nat.mul_one] at c0 e0
   have z0 : (0 : Int) ≤ (i : Int) := by omega
   have z1 : (i : Int) < (xs.length : Int) := by omega
   have hbw := HB.out
   clear hc hc' hcell hdell hcell2 hdell2 hrel1 hrel2 hx HB hcl hdl hKb hLb hcs hds
   have hne := run_val_eq x.k x.n x.b x.s
   go_wp2_with fail
   go_quiet (fail)
   go_wp2_with fail
   go_roundg g'
   case measure => omega
   case rel => exact ⟨i + 1, by go_num, by omega, by omega, below_drewN hbw _⟩
  ·have z1 : ¬ (i : Int) < (xs.length : Int) := by omega
   have HB2 : Hid (Below w.heap.size w wr) := HB.out
   clear HB
   go_wp2_with fail
   go_ret
   exact ⟨rfl, HB2.out⟩
set_option maxRecDepth 100000 in
set_option maxHeartbeats 2000000 in
theorem cols_eq (va vb : Value) (xs : List Cl) (K L : Nat → Prop) (w : World) (h : ListIs rCl 2 24 K w va xs) (h' : ListIs rCl 2 24 L w vb xs) (hK : ∀ b, K b → b < w.heap.size) (hL : ∀ b, L b → b < w.heap.size) :
  Calls Tryz.prog 51 #[va, vb] w fun e w' => e = .returned (.bool true) ∧ Below w.heap.size w w' := by
 obtain ⟨p, c, rfl, hby, hp⟩ := h
 obtain ⟨q, d, rfl, _, hq⟩ := h'
 have HP : Hid _ := hp
 have HQ : Hid _ := hq
 have t3 : ((xs.length : Int) != (xs.length : Int)) = false := by simp
 have HKK : Hid (∀ b, K b → b < w.heap.size) := hK
 have HLL : Hid (∀ b, L b → b < w.heap.size) := hL
 clear hp hq hK hL
 go_enter Tryz.func51, Tryz.ntmps51
 go_wp2_with fail
 go_loopg [13] xs.length (fun gf s30 wx => ∃ i : Nat, s30 = .int .i64 i ∧ i ≤ xs.length ∧ xs.length ≤ i + gf ∧ Hid (Below w.heap.size w wx))
 case atStart => exact ⟨0, rfl, by omega, by omega, Below.refl _ _⟩
 case round =>
  obtain ⟨i, rfl, hi1, hgf, HB⟩ := hrel
  by_cases hi : i < xs.length
  ·obtain ⟨g', rfl⟩ : ∃ g', gk = g' + 1 := ⟨gk - 1, by omega⟩
   obtain ⟨b, o, rfl, hKb, hc⟩ := HP.out (by omega)
   obtain ⟨b', o', rfl, hLb, hc'⟩ := HQ.out (by omega)
   obtain ⟨cs, hcl, hcell, hrel1⟩ := hc i hi
   obtain ⟨ds, hdl, hdell, hrel2⟩ := hc' i hi
   obtain ⟨x, hx⟩ : ∃ x, xs[i] = x := ⟨_, rfl⟩
   rw [hx] at hrel1 hrel2
   have hcs := hrel1.1
   have hds := hrel2.1
   have hcell2 : ∀ j u, cs[j]? = some u → wr.cell? ⟨b, o + i * 2 + j, none⟩ = some u := fun j u hj => by rw [HB.out.cell (p := ⟨b, _, none⟩) (HKK.out _ hKb)]; exact hcell j u hj
   have hdell2 : ∀ j u, ds[j]? = some u → wr.cell? ⟨b', o' + i * 2 + j, none⟩ = some u := fun j u hj => by rw [HB.out.cell (p := ⟨b', _, none⟩) (HLL.out _ hLb)]; exact hdell j u hj
   rw [hcs] at hcell2
   rw [hds] at hdell2
   have c0 := hcell2 0 _ rfl
   have e0 := hdell2 0 _ rfl
   have c1 := hcell2 1 _ rfl
   have e1 := hdell2 1 _ rfl
   simp only [Nat.add_zero, Nat.mul_one] at c0 e0
   have z0 : (0 : Int) ≤ (i : Int) := by omega
   have z1 : (i : Int) < (xs.length : Int) := by omega
   have hbw := HB.out
   clear hc hc' hcell hdell hcell2 hdell2 hrel1 hrel2 hx HB hcl hdl hKb hLb hcs hds
   have hne := run_col_eq (x.k : Int) x.n
   go_wp2_with fail
   go_quiet (fail)
   go_wp2_with fail
   go_roundg g'
   case measure => omega
   case rel => exact ⟨i + 1, by go_num, by omega, by omega, below_drewN hbw _⟩
  ·have z1 : ¬ (i : Int) < (xs.length : Int) := by omega
   have HB2 : Hid (Below w.heap.size w wr) := HB.out
   clear HB
   go_wp2_with fail
   go_ret
   exact ⟨rfl, HB2.out⟩
end Go.Proofs.YtajomnfeicfdlaaGreatDoor
/- Lists of lists that are one: what the reference's Same of rows answers. -/
namespace Go.Proofs.YtajomnfeicfdlaaGreatDoor
open Go.Shelf Go.RowKit Go.Lib
set_option linter.unusedVariables false
set_option linter.unusedSimpArgs false
attribute [local go_sem ↓] Go.wp_at_zero Go.wp_at_succ
/-- A world behind another one, all of whose blocks are as they were. -/
structure LaterS (B : Nat) (W0 : World) where
 w : World
 h : Below B W0 w
abbrev laterInh (w : World) : Inhabited (LaterS w.heap.size w) := ⟨⟨w, Below.refl _ _⟩⟩
theorem wp_region_laterS {P : Program} {id : Nat} {Q : Exit → Act → World → Prop} {a : Act} {w : World} {l : List Oper} (hm : P.follows .mixedOrders = true) (hB : Region.lexB .any l.toArray = true)
  (h : wpQuiet P l.toArray (fun w' => ∃ p : LaterS w.heap.size w, w' = p.w) (fun a' => ∀ w', (∃ p : LaterS w.heap.size w, w' = p.w) → Q .normal a' w') l a) : (Code.region id l.toArray true).wp P Q a w :=
 wp_region_quiet (C := fun w' => ∃ p : LaterS w.heap.size w, w' = p.w) hm hB ⟨⟨w.drew, (Below.refl _ _).drew⟩, rfl⟩ (by simpa using h)
theorem calls_laterS {P : Program} {f : FuncId} {args : Array Value} {W0 : World} {p : LaterS W0.heap.size W0} {v : Value}
  (h : Calls P f args p.w fun e w' => e = .returned v ∧ Below p.w.heap.size p.w w') : Calls P f args p.w fun e w'' => e = .returned v ∧ ∃ p' : LaterS W0.heap.size W0, w'' = p'.w :=
 h.mono fun _ _ ⟨he, hb⟩ => ⟨he, ⟨_, p.h.trans (hb.mono p.h.size)⟩, rfl⟩
theorem mixedOnS : Tryz.prog.follows .mixedOrders = true := by kernel_rfl
set_option maxRecDepth 100000 in
set_option maxHeartbeats 2000000 in
theorem rows_eq (va vb : Value) (xs : List (List Val)) (K L : Nat → Prop) (w : World) (h : ListIs rRow 1 24 K w va xs) (h' : ListIs rRow 1 24 L w vb xs) (hK : ∀ b, K b → b < w.heap.size) (hL : ∀ b, L b → b < w.heap.size) :
  Calls Tryz.prog 52 #[va, vb] w fun e w' => e = .returned (.bool true) ∧ Below w.heap.size w w' := by
 obtain ⟨p, c, rfl, hby, hp⟩ := h
 obtain ⟨q, d, rfl, _, hq⟩ := h'
 have HP : Hid _ := hp
 have HQ : Hid _ := hq
 have t3 : ((xs.length : Int) != (xs.length : Int)) = false := by simp
 have HKK : Hid (∀ b, K b → b < w.heap.size) := hK
 have HLL : Hid (∀ b, L b → b < w.heap.size) := hL
 clear hp hq hK hL
 go_enter Tryz.func52, Tryz.ntmps52
 go_wp2_with fail
 go_loopg [13] xs.length (fun gf s30 wx => ∃ i : Nat, s30 = .int .i64 i ∧ i ≤ xs.length ∧ xs.length ≤ i + gf ∧ Hid (Below w.heap.size w wx))
 case atStart => exact ⟨0, rfl, by omega, by omega, Below.refl _ _⟩
 case round =>
  obtain ⟨i, rfl, hi1, hgf, HB⟩ := hrel
  by_cases hi : i < xs.length
  ·obtain ⟨g', rfl⟩ : ∃ g', gk = g' + 1 := ⟨gk - 1, by omega⟩
   obtain ⟨b, o, rfl, hKb, hc⟩ := HP.out (by omega)
   obtain ⟨b', o', rfl, hLb, hc'⟩ := HQ.out (by omega)
   obtain ⟨cs, hcl, hcell, hrel1⟩ := hc i hi
   obtain ⟨ds, hdl, hdell, hrel2⟩ := hc' i hi
   obtain ⟨x, hx⟩ : ∃ x, xs[i] = x := ⟨_, rfl⟩
   rw [hx] at hrel1 hrel2
   have hbw := HB.out
   have hkr : ∀ b, K b → b < wr.heap.size := fun b hb => Nat.lt_of_lt_of_le (HKK.out b hb) hbw.size
   have hlr : ∀ b, L b → b < wr.heap.size := fun b hb => Nat.lt_of_lt_of_le (HLL.out b hb) hbw.size
   have hcell2 : ∀ (p : LaterS wr.heap.size wr) j u, cs[j]? = some u → p.w.cell? ⟨b, o + i * 1 + j, none⟩ = some u := fun p j u hj => by
    rw [p.h.cell (p := ⟨b, _, none⟩) (hkr _ hKb), hbw.cell (p := ⟨b, _, none⟩) (HKK.out _ hKb)]; exact hcell j u hj
   have hdell2 : ∀ (p : LaterS wr.heap.size wr) j u, ds[j]? = some u → p.w.cell? ⟨b', o' + i * 1 + j, none⟩ = some u := fun p j u hj => by
    rw [p.h.cell (p := ⟨b', _, none⟩) (hlr _ hLb), hbw.cell (p := ⟨b', _, none⟩) (HLL.out _ hLb)]; exact hdell j u hj
   obtain ⟨u1, hcs, hl1⟩ := hrel1
   obtain ⟨u2, hds, hl2⟩ := hrel2
   rw [hcs] at hcell2
   rw [hds] at hdell2
   clear hcs hds
   have cS : Hid (∀ p : LaterS wr.heap.size wr, Calls Tryz.prog 81 #[u1, u2] p.w fun e w' => e = .returned (.bool true) ∧ Below p.w.heap.size p.w w') := fun p =>
    row_eq u1 u2 x K L p.w (ListIs.later mVal hl1 HKK.out (hbw.trans (p.h.mono hbw.size))) (ListIs.later mVal hl2 HLL.out (hbw.trans (p.h.mono hbw.size))) (fun b hb => Nat.lt_of_lt_of_le (hkr b hb) p.h.size) (fun b hb => Nat.lt_of_lt_of_le (hlr b hb) p.h.size)
   obtain ⟨p1, d1, rfl, _, _⟩ := hl1
   obtain ⟨p2, d2, rfl, _, _⟩ := hl2
   have c0 := fun p => hcell2 p 0 _ rfl
   have e0 := fun p => hdell2 p 0 _ rfl
   simp only [Nat.add_zero, Nat.mul_one] at c0 e0
   have z0 : (0 : Int) ≤ (i : Int) := by omega
   have z1 : (i : Int) < (xs.length : Int) := by omega
   clear hc hc' hcell hdell hcell2 hdell2 hx HB hcl hdl hKb hLb hkr hlr
   go_wp2_with fail
   have inhL := laterInh
   refine wp_region_laterS mixedOnS (by kernel_rfl) ?_
   repeat (go_big_quiet_step ((go_at_call 81; exact calls_laterS (cS.out _))))
   refine wpQuiet_nil ?_
   intro w2 hw'
   obtain ⟨⟨wq, hwq⟩, hw''⟩ := hw'
   subst hw''
   go_wp2_with fail
   go_roundg g'
   case measure => omega
   case rel => exact ⟨i + 1, by go_num, by omega, by omega, hbw.trans (hwq.mono hbw.size)⟩
  ·have z1 : ¬ (i : Int) < (xs.length : Int) := by omega
   have HB2 : Hid (Below w.heap.size w wr) := HB.out
   clear HB
   go_wp2_with fail
   go_ret
   exact ⟨rfl, HB2.out⟩
end Go.Proofs.YtajomnfeicfdlaaGreatDoor
/- Structs that are one: what the reference's SameSrc, SameFrag, SameFile answer. -/
namespace Go.Proofs.YtajomnfeicfdlaaGreatDoor
open Go.Shelf Go.RowKit Go.Lib
set_option linter.unusedVariables false
set_option linter.unusedSimpArgs false
attribute [local go_sem ↓] Go.wp_at_zero Go.wp_at_succ
theorem cell_of_row {W : World} {g k : Nat} {cur : Array Value} {t : TypeId} (hg : W.heap[g]? = some (.cells cur t (0, 0))) {v : Value} (h : cur[k]? = some v) : W.cell? ⟨g, k, none⟩ = some v := by simp [World.cell?, hg, h]
theorem two_belowS (w : World) (a b : Obj) : Below w.heap.size w ((w.alloc a).alloc b) :=
 ((Below.refl _ _).alloc (Nat.le_refl _) a).alloc (by simp) b
theorem two_boxes (w : World) (a b : Array Value) (t : TypeId) : ∃ W0, (w.alloc (.cells a t)).alloc (.cells b t) = W0 ∧ Below w.heap.size w W0 ∧ W0.heap.size = w.heap.size + 2 ∧
  W0.heap[w.heap.size]? = some (.cells a t (0, 0)) ∧ W0.heap[w.heap.size + 1]? = some (.cells b t (0, 0)) := by
 refine ⟨_, rfl, two_belowS _ _ _, by simp, by rw [heap_alloc_old _ _ (by simp)]; exact heap_alloc_new w _, ?_⟩
 have := heap_alloc_new (w.alloc (.cells a t)) (.cells b t)
 simpa using this
theorem run_vrs_eq (a b : Int) (w : World) :
  (binOp .eql 40 (.agg #[.int .u64 a, .int .u64 b]) (.agg #[.int .u64 a, .int .u64 b])).run Tryz.prog w = .ok (.bool true) w := by
 have hS : Tryz.prog.underlying 40 = some (.struct (Tryz.prog.fieldsOf 40)) := by kernel_rfl
 have hp : Tryz.prog.stoodInHeld 40 = false := by kernel_rfl
 have u9 := Tryz.underlying10; have a9 := Tryz.isAgg10; have z9 := Tryz.sizeOf10
 rw [run_eql_struct, show (10000 : Nat) = 9999 + 1 from rfl, run_equalIn_struct w 9999 40 _ _ hS hp]
 simp only [Program.fieldsOf, Tryz.underlying40]
 go_simp
set_option maxRecDepth 100000 in
set_option maxHeartbeats 2000000 in
theorem src_eq (cs ds : List Value) (x : Sr) (K L : Nat → Prop) (w : World) (h : rSr K w cs x) (h' : rSr L w ds x) (hK : ∀ b, K b → b < w.heap.size) (hL : ∀ b, L b → b < w.heap.size) :
  Calls Tryz.prog 84 #[.agg cs.toArray, .agg ds.toArray] w fun e w' => e = .returned (.bool true) ∧ Below w.heap.size w w' := by
 obtain ⟨v, rfl, _, _, _, _, hl⟩ := h
 obtain ⟨u, rfl, _, _, _, _, hl'⟩ := h'
 obtain ⟨W0, hW0, hb0, hs0, g0, g1⟩ := two_boxes w #[.int .u8 (x.k : Int), .string x.t, .int .u64 (x.v.b : Int), .int .u64 (x.v.l : Int), .int .i64 x.s, v] #[.int .u8 (x.k : Int), .string x.t, .int .u64 (x.v.b : Int), .int .u64 (x.v.l : Int), .int .i64 x.s, u] 58
 have x0 := cell_of_row (k := 0) g0 rfl
 have y0 := cell_of_row (k := 0) g1 rfl
 have x1 := cell_of_row (k := 1) g0 rfl
 have y1 := cell_of_row (k := 1) g1 rfl
 have x2 := cell_of_row (k := 2) g0 rfl
 have y2 := cell_of_row (k := 2) g1 rfl
 have x3 := cell_of_row (k := 3) g0 rfl
 have y3 := cell_of_row (k := 3) g1 rfl
 have x4 := cell_of_row (k := 4) g0 rfl
 have y4 := cell_of_row (k := 4) g1 rfl
 have x5 := cell_of_row (k := 5) g0 rfl
 have y5 := cell_of_row (k := 5) g1 rfl
 have C : Hid (Calls Tryz.prog 85 #[v, u] W0 fun e w' => e = .returned (.bool true) ∧ Below W0.heap.size W0 w') :=
  ints_eq v u x.f K L W0 (ListIs.later mInt hl hK hb0) (ListIs.later mInt hl' hL hb0) (fun b hb => Nat.lt_of_lt_of_le (hK b hb) hb0.size) (fun b hb => Nat.lt_of_lt_of_le (hL b hb) hb0.size)
 have HB0 : Hid (Below w.heap.size w W0) := hb0
 have hne := run_vrs_eq (x.v.b : Int) (x.v.l : Int)
 obtain ⟨p1, d1, rfl, _, _⟩ := hl
 obtain ⟨p2, d2, rfl, _, _⟩ := hl'
 clear hK hL hb0 hs0 g0 g1
 go_enter Tryz.func84, Tryz.ntmps84
 go_wp2_with fail
 refine C.out.mono ?_
 rintro e w2 ⟨rfl, hb2⟩
 have HB2 : Hid (Below W0.heap.size W0 w2) := hb2
 clear hb2
 go_wp2_with fail
 go_ret
 exact ⟨rfl, HB0.out.trans (HB2.out.mono HB0.out.size)⟩
/-- Two boxes. -/
def BX (g : Nat) (a b : Array Value) (t : TypeId) (W : World) : Prop := W.heap[g]? = some (.cells a t (0, 0)) ∧ W.heap[g + 1]? = some (.cells b t (0, 0))
theorem two_boxesB (w : World) (a b : Array Value) (t : TypeId) : ∃ W0, (w.alloc (.cells a t)).alloc (.cells b t) = W0 ∧ Below w.heap.size w W0 ∧ W0.heap.size = w.heap.size + 2 ∧
  ∀ W, Below W0.heap.size W0 W → BX w.heap.size a b t W := by
 obtain ⟨W0, h1, h2, h3, h4, h5⟩ := two_boxes w a b t
 exact ⟨W0, h1, h2, h3, fun W hb => ⟨by rw [hb.block _ (by omega)]; exact h4, by rw [hb.block _ (by omega)]; exact h5⟩⟩
set_option maxRecDepth 100000 in
set_option maxHeartbeats 2000000 in
theorem frag_eq (cs ds : List Value) (x : Frg) (K L : Nat → Prop) (w : World) (h : rFrg K w cs x) (h' : rFrg L w ds x) (hK : ∀ b, K b → b < w.heap.size) (hL : ∀ b, L b → b < w.heap.size) :
  Calls Tryz.prog 54 #[.agg cs.toArray, .agg ds.toArray] w fun e w' => e = .returned (.bool true) ∧ Below w.heap.size w w' := by
 obtain ⟨c1, c2, v, rfl, _, _, s1, s2, _, hl⟩ := h
 obtain ⟨d1, d2, u, rfl, _, _, s1', s2', _, hl'⟩ := h'
 have KK : ∀ W, Below w.heap.size w W → ∀ b, K b → b < W.heap.size := fun W hb b h => Nat.lt_of_lt_of_le (hK b h) hb.size
 have LL : ∀ W, Below w.heap.size w W → ∀ b, L b → b < W.heap.size := fun W hb b h => Nat.lt_of_lt_of_le (hL b h) hb.size
 have CA : Hid (∀ W, Below w.heap.size w W → Calls Tryz.prog 84 #[.agg c1.toArray, .agg d1.toArray] W fun e w' => e = .returned (.bool true) ∧ Below W.heap.size W w') := fun W hb =>
  src_eq c1 d1 x.l K L W (mSr _ _ _ _ _ _ (fun _ h => h) (kept_of hK hb) s1) (mSr _ _ _ _ _ _ (fun _ h => h) (kept_of hL hb) s1') (KK W hb) (LL W hb)
 have CB : Hid (∀ W, Below w.heap.size w W → Calls Tryz.prog 84 #[.agg c2.toArray, .agg d2.toArray] W fun e w' => e = .returned (.bool true) ∧ Below W.heap.size W w') := fun W hb =>
  src_eq c2 d2 x.r K L W (mSr _ _ _ _ _ _ (fun _ h => h) (kept_of hK hb) s2) (mSr _ _ _ _ _ _ (fun _ h => h) (kept_of hL hb) s2') (KK W hb) (LL W hb)
 have CI : Hid (∀ W, Below w.heap.size w W → Calls Tryz.prog 85 #[v, u] W fun e w' => e = .returned (.bool true) ∧ Below W.heap.size W w') := fun W hb =>
  ints_eq v u x.to K L W (ListIs.later mInt hl hK hb) (ListIs.later mInt hl' hL hb) (KK W hb) (LL W hb)
 obtain ⟨a1, rfl, _, _, _, _, m1⟩ := s1
 obtain ⟨a2, rfl, _, _, _, _, m2⟩ := s2
 obtain ⟨b1, rfl, _, _, _, _, m3⟩ := s1'
 obtain ⟨b2, rfl, _, _, _, _, m4⟩ := s2'
 obtain ⟨p1, q1, rfl, _, _⟩ := hl
 obtain ⟨p2, q2, rfl, _, _⟩ := hl'
 obtain ⟨p3, q3, rfl, _, _⟩ := m1
 obtain ⟨p4, q4, rfl, _, _⟩ := m2
 obtain ⟨p5, q5, rfl, _, _⟩ := m3
 obtain ⟨p6, q6, rfl, _, _⟩ := m4
 simp only [List.cons_append, List.nil_append]
 obtain ⟨W0, hW0, hb0, hs0, hg⟩ := two_boxesB w #[.int .i64 x.id, .int .i64 x.nd, .int .u8 (x.l.k : Int), .string x.l.t, .int .u64 (x.l.v.b : Int), .int .u64 (x.l.v.l : Int), .int .i64 x.l.s, .slice p3 x.l.f.length q3, .int .u8 (x.r.k : Int), .string x.r.t, .int .u64 (x.r.v.b : Int), .int .u64 (x.r.v.l : Int), .int .i64 x.r.s, .slice p4 x.r.f.length q4, .bool x.raw, .int .i64 x.by_, .slice p1 x.to.length q1] #[.int .i64 x.id, .int .i64 x.nd, .int .u8 (x.l.k : Int), .string x.l.t, .int .u64 (x.l.v.b : Int), .int .u64 (x.l.v.l : Int), .int .i64 x.l.s, .slice p5 x.l.f.length q5, .int .u8 (x.r.k : Int), .string x.r.t, .int .u64 (x.r.v.b : Int), .int .u64 (x.r.v.l : Int), .int .i64 x.r.s, .slice p6 x.r.f.length q6, .bool x.raw, .int .i64 x.by_, .slice p2 x.to.length q2] 60
 have HG : Hid _ := hg
 obtain ⟨g0, g1⟩ := hg W0 (Below.refl _ _)
 have x0 := cell_of_row (k := 0) g0 rfl
 have y0 := cell_of_row (k := 0) g1 rfl
 have x1 := cell_of_row (k := 1) g0 rfl
 have y1 := cell_of_row (k := 1) g1 rfl
 have x2 := cell_of_row (k := 2) g0 rfl
 have y2 := cell_of_row (k := 2) g1 rfl
 have x3 := cell_of_row (k := 3) g0 rfl
 have y3 := cell_of_row (k := 3) g1 rfl
 have x4 := cell_of_row (k := 4) g0 rfl
 have y4 := cell_of_row (k := 4) g1 rfl
 have x5 := cell_of_row (k := 5) g0 rfl
 have y5 := cell_of_row (k := 5) g1 rfl
 have x6 := cell_of_row (k := 6) g0 rfl
 have y6 := cell_of_row (k := 6) g1 rfl
 have x7 := cell_of_row (k := 7) g0 rfl
 have y7 := cell_of_row (k := 7) g1 rfl
 have HB0 : Hid (Below w.heap.size w W0) := hb0
 clear hK hL hb0 hs0 g0 g1 hg KK LL
 go_enter Tryz.func54, Tryz.ntmps54
 go_wp2_with fail
 refine (CA.out W0 HB0.out).mono ?_
 rintro e w2 ⟨rfl, hb2⟩
 obtain ⟨g0, g1⟩ := HG.out w2 hb2
 have x8 := cell_of_row (k := 8) g0 rfl
 have y8 := cell_of_row (k := 8) g1 rfl
 have x9 := cell_of_row (k := 9) g0 rfl
 have y9 := cell_of_row (k := 9) g1 rfl
 have x10 := cell_of_row (k := 10) g0 rfl
 have y10 := cell_of_row (k := 10) g1 rfl
 have x11 := cell_of_row (k := 11) g0 rfl
 have y11 := cell_of_row (k := 11) g1 rfl
 have x12 := cell_of_row (k := 12) g0 rfl
 have y12 := cell_of_row (k := 12) g1 rfl
 have x13 := cell_of_row (k := 13) g0 rfl
 have y13 := cell_of_row (k := 13) g1 rfl
 have HB2 : Hid (Below W0.heap.size W0 w2) := hb2
 clear hb2 g0 g1
 go_wp2_with fail
 refine (CB.out w2 (HB0.out.trans (HB2.out.mono HB0.out.size))).mono ?_
 rintro e w3 ⟨rfl, hb3⟩
 have HB3 : Hid (Below W0.heap.size W0 w3) := HB2.out.trans (hb3.mono HB2.out.size)
 obtain ⟨g0, g1⟩ := HG.out w3 HB3.out
 have x14 := cell_of_row (k := 14) g0 rfl
 have y14 := cell_of_row (k := 14) g1 rfl
 have x15 := cell_of_row (k := 15) g0 rfl
 have y15 := cell_of_row (k := 15) g1 rfl
 have x16 := cell_of_row (k := 16) g0 rfl
 have y16 := cell_of_row (k := 16) g1 rfl
 clear hb3 g0 g1
 go_wp2_with fail
 refine (CI.out w3 (HB0.out.trans (HB3.out.mono HB0.out.size))).mono ?_
 rintro e w4 ⟨rfl, hb4⟩
 have HB4 : Hid (Below W0.heap.size W0 w4) := HB3.out.trans (hb4.mono HB3.out.size)
 clear hb4
 go_wp2_with fail
 go_ret
 exact ⟨rfl, HB0.out.trans (HB4.out.mono HB0.out.size)⟩
set_option maxRecDepth 100000 in
set_option maxHeartbeats 2000000 in
theorem file_eq (cs ds : List Value) (r s : Value) (x : Fh) (y : List (List Val)) (K L : Nat → Prop) (w : World) (h : rFh K w cs x) (h' : rFh L w ds x) (hr : ListIs rRow 1 24 K w r y) (hr' : ListIs rRow 1 24 L w s y) (hK : ∀ b, K b → b < w.heap.size) (hL : ∀ b, L b → b < w.heap.size) :
  Calls Tryz.prog 55 #[.agg (cs ++ [r]).toArray, .agg (ds ++ [s]).toArray] w fun e w' => e = .returned (.bool true) ∧ Below w.heap.size w w' := by
 obtain ⟨v, rfl, _, _, _, hl⟩ := h
 obtain ⟨u, rfl, _, _, _, hl'⟩ := h'
 have KK : ∀ W, Below w.heap.size w W → ∀ b, K b → b < W.heap.size := fun W hb b h => Nat.lt_of_lt_of_le (hK b h) hb.size
 have LL : ∀ W, Below w.heap.size w W → ∀ b, L b → b < W.heap.size := fun W hb b h => Nat.lt_of_lt_of_le (hL b h) hb.size
 have CA : Hid (∀ W, Below w.heap.size w W → Calls Tryz.prog 51 #[v, u] W fun e w' => e = .returned (.bool true) ∧ Below W.heap.size W w') := fun W hb =>
  cols_eq v u x.c K L W (ListIs.later mCl hl hK hb) (ListIs.later mCl hl' hL hb) (KK W hb) (LL W hb)
 have CB : Hid (∀ W, Below w.heap.size w W → Calls Tryz.prog 52 #[r, s] W fun e w' => e = .returned (.bool true) ∧ Below W.heap.size W w') := fun W hb =>
  rows_eq r s y K L W (ListIs.later mRow hr hK hb) (ListIs.later mRow hr' hL hb) (KK W hb) (LL W hb)
 obtain ⟨p1, q1, rfl, _, _⟩ := hl
 obtain ⟨p2, q2, rfl, _, _⟩ := hl'
 obtain ⟨p3, q3, rfl, _, _⟩ := hr
 obtain ⟨p4, q4, rfl, _, _⟩ := hr'
 simp only [List.cons_append, List.nil_append]
 have hne := run_vrs_eq (x.v.b : Int) (x.v.l : Int)
 obtain ⟨W0, hW0, hb0, hs0, hg⟩ := two_boxesB w #[.string x.t, .int .u64 (x.v.b : Int), .int .u64 (x.v.l : Int), .int .i64 x.s, .slice p1 x.c.length q1, .slice p3 y.length q3] #[.string x.t, .int .u64 (x.v.b : Int), .int .u64 (x.v.l : Int), .int .i64 x.s, .slice p2 x.c.length q2, .slice p4 y.length q4] 44
 have HG : Hid _ := hg
 obtain ⟨g0, g1⟩ := hg W0 (Below.refl _ _)
 have x0 := cell_of_row (k := 0) g0 rfl
 have y0 := cell_of_row (k := 0) g1 rfl
 have x1 := cell_of_row (k := 1) g0 rfl
 have y1 := cell_of_row (k := 1) g1 rfl
 have x2 := cell_of_row (k := 2) g0 rfl
 have y2 := cell_of_row (k := 2) g1 rfl
 have x3 := cell_of_row (k := 3) g0 rfl
 have y3 := cell_of_row (k := 3) g1 rfl
 have x4 := cell_of_row (k := 4) g0 rfl
 have y4 := cell_of_row (k := 4) g1 rfl
 have HB0 : Hid (Below w.heap.size w W0) := hb0
 clear hK hL hb0 hs0 g0 g1 hg KK LL
 go_enter Tryz.func55, Tryz.ntmps55
 go_wp2_with fail
 refine (CA.out W0 HB0.out).mono ?_
 rintro e w2 ⟨rfl, hb2⟩
 obtain ⟨g0, g1⟩ := HG.out w2 hb2
 have x5 := cell_of_row (k := 5) g0 rfl
 have y5 := cell_of_row (k := 5) g1 rfl
 have HB2 : Hid (Below W0.heap.size W0 w2) := hb2
 clear hb2 g0 g1
 go_wp2_with fail
 refine (CB.out w2 (HB0.out.trans (HB2.out.mono HB0.out.size))).mono ?_
 rintro e w3 ⟨rfl, hb3⟩
 have HB3 : Hid (Below W0.heap.size W0 w3) := HB2.out.trans (hb3.mono HB2.out.size)
 clear hb3
 go_wp2_with fail
 go_ret
 exact ⟨rfl, HB0.out.trans (HB3.out.mono HB0.out.size)⟩
end Go.Proofs.YtajomnfeicfdlaaGreatDoor
/- Claims that are one. -/
namespace Go.Proofs.YtajomnfeicfdlaaGreatDoor
open Go.Shelf Go.RowKit Go.Lib
set_option linter.unusedVariables false
set_option linter.unusedSimpArgs false
attribute [local go_sem ↓] Go.wp_at_zero Go.wp_at_succ
theorem run_vrs_ne (a b : Int) (w : World) :
  (binOp .neq 40 (.agg #[.int .u64 a, .int .u64 b]) (.agg #[.int .u64 a, .int .u64 b])).run Tryz.prog w = .ok (.bool false) w := by
 have h := run_vrs_eq a b w
 simp only [binOp, Sem.run_bind] at h ⊢
 generalize (Op.equal 40 (.agg #[.int .u64 a, .int .u64 b]) (.agg #[.int .u64 a, .int .u64 b])).run Tryz.prog w = r at h ⊢
 cases r <;> simp_all
set_option maxRecDepth 100000 in
set_option maxHeartbeats 4000000 in
theorem claim_eq (cs ds : List Value) (x : Clm) (K L : Nat → Prop) (w : World) (h : rClm K w cs x) (h' : rClm L w ds x) (hK : ∀ b, K b → b < w.heap.size) (hL : ∀ b, L b → b < w.heap.size) :
  Calls Tryz.prog 86 #[.agg cs.toArray, .agg ds.toArray] w fun e w' => e = .returned (.bool true) ∧ Below w.heap.size w w' := by
 obtain ⟨v, v2, rfl, _, hl, _, ho⟩ := h
 obtain ⟨u, u2, rfl, _, hl', _, ho'⟩ := h'
 obtain ⟨p1, q1, rfl, _, hp1⟩ := hl
 obtain ⟨p2, q2, rfl, _, hp2⟩ := hl'
 obtain ⟨p3, q3, rfl, _, hp3⟩ := ho
 obtain ⟨p4, q4, rfl, _, hp4⟩ := ho'
 have HP1 : Hid _ := hp1
 have HP2 : Hid _ := hp2
 have HP3 : Hid _ := hp3
 have HP4 : Hid _ := hp4
 have HKK : Hid (∀ b, K b → b < w.heap.size) := hK
 have HLL : Hid (∀ b, L b → b < w.heap.size) := hL
 have t3 : ((x.c.length : Int) != (x.c.length : Int)) = false := by simp
 have t4 : ((x.o.length : Int) != (x.o.length : Int)) = false := by simp
 have hvr := run_vrs_ne (x.v.b : Int) (x.v.l : Int)
 obtain ⟨W0, hW0, hb0, hs0, hg⟩ := two_boxesB w #[.string x.t, .slice p1 x.c.length q1, .int .u64 (x.v.b : Int), .int .u64 (x.v.l : Int), .slice p3 x.o.length q3] #[.string x.t, .slice p2 x.c.length q2, .int .u64 (x.v.b : Int), .int .u64 (x.v.l : Int), .slice p4 x.o.length q4] 160
 have HG : Hid _ := hg
 obtain ⟨g0, g1⟩ := hg W0 (Below.refl _ _)
 have x0 := cell_of_row (k := 0) g0 rfl
 have y0 := cell_of_row (k := 0) g1 rfl
 have x1 := cell_of_row (k := 1) g0 rfl
 have y1 := cell_of_row (k := 1) g1 rfl
 have x2 := cell_of_row (k := 2) g0 rfl
 have y2 := cell_of_row (k := 2) g1 rfl
 have x3 := cell_of_row (k := 3) g0 rfl
 have y3 := cell_of_row (k := 3) g1 rfl
 have x4 := cell_of_row (k := 4) g0 rfl
 have y4 := cell_of_row (k := 4) g1 rfl
 have HB0 : Hid (Below w.heap.size w W0) := hb0
 clear hp1 hp2 hp3 hp4 hK hL hb0 hs0 hg g0 g1
 go_enter Tryz.func86, Tryz.ntmps86
 go_wp2_with fail
 go_loopg [40] x.c.length (fun gf s30 wx => ∃ i : Nat, s30 = .int .i64 i ∧ i ≤ x.c.length ∧ x.c.length ≤ i + gf ∧ Hid (Below W0.heap.size W0 wx))
 case atStart => exact ⟨0, rfl, by omega, by omega, Below.refl _ _⟩
 case round =>
  obtain ⟨i, rfl, hi1, hgf, HB⟩ := hrel
  have hbw : Below w.heap.size w wr := HB0.out.trans (HB.out.mono HB0.out.size)
  obtain ⟨g0, g1⟩ := HG.out wr HB.out
  by_cases hi : i < x.c.length
  ·obtain ⟨g', rfl⟩ : ∃ g', gk = g' + 1 := ⟨gk - 1, by omega⟩
   obtain ⟨b, o, rfl, hKb, hc⟩ := HP1.out (by omega)
   obtain ⟨b', o', rfl, hLb, hc'⟩ := HP2.out (by omega)
   obtain ⟨cs, hcl, hcell, hrel1⟩ := hc i hi
   obtain ⟨ds, hdl, hdell, hrel2⟩ := hc' i hi
   obtain ⟨y, hy⟩ : ∃ y, x.c[i] = y := ⟨_, rfl⟩
   rw [hy] at hrel1 hrel2
   have hcs := hrel1.1
   have hds := hrel2.1
   have hcell2 : ∀ j u, cs[j]? = some u → wr.cell? ⟨b, o + i * 2 + j, none⟩ = some u := fun j u hj => by rw [hbw.cell (p := ⟨b, _, none⟩) (HKK.out _ hKb)]; exact hcell j u hj
   have hdell2 : ∀ j u, ds[j]? = some u → wr.cell? ⟨b', o' + i * 2 + j, none⟩ = some u := fun j u hj => by rw [hbw.cell (p := ⟨b', _, none⟩) (HLL.out _ hLb)]; exact hdell j u hj
   rw [hcs] at hcell2
   rw [hds] at hdell2
   have c0 := hcell2 0 _ rfl
   have e0 := hdell2 0 _ rfl
   have c1 := hcell2 1 _ rfl
   have e1 := hdell2 1 _ rfl
   simp only [Nat.add_zero, Nat.mul_one] at c0 e0
   have m0 := cell_of_row (k := 1) g0 rfl
   have m1 := cell_of_row (k := 1) g1 rfl
   have z0 : (0 : Int) ≤ (i : Int) := by omega
   have z1 : (i : Int) < (x.c.length : Int) := by omega
   have HB3 : Hid (Below W0.heap.size W0 wr) := HB.out
   clear hc hc' hcell hdell hcell2 hdell2 hrel1 hrel2 hy HB hcl hdl hKb hLb hcs hds hbw g0 g1
   have hne := run_col_eq (y.k : Int) y.n
   go_wp2_with fail
   go_quiet (fail)
   go_wp2_with fail
   go_roundg g'
   case measure => omega
   case rel => exact ⟨i + 1, by go_num, by omega, by omega, below_drewN HB3.out _⟩
  ·have z1 : ¬ (i : Int) < (x.c.length : Int) := by omega
   have HB2 : Hid (Below W0.heap.size W0 wr) := HB.out
   clear HB hbw
   have m0 := cell_of_row (k := 4) g0 rfl
   have m1 := cell_of_row (k := 4) g1 rfl
   clear g0 g1
   go_wp2_with fail
   have HV0 := HB2
   clear HB2 m0 m1 z1 hi hi1 hgf
   obtain ⟨V0, hV0⟩ : ∃ V0, V0 = wr := ⟨_, rfl⟩
   subst hV0
   go_loopg [58] x.o.length (fun gf s30 wx => ∃ i : Nat, s30 = .int .i64 i ∧ i ≤ x.o.length ∧ x.o.length ≤ i + gf ∧ Hid (Below W0.heap.size W0 wx))
   case atStart => exact ⟨0, rfl, by omega, by omega, HV0⟩
   case round =>
    obtain ⟨i, rfl, hi1, hgf, HB⟩ := hrel
    have hbw : Below w.heap.size w wr := HB0.out.trans (HB.out.mono HB0.out.size)
    by_cases hi : i < x.o.length
    ·obtain ⟨g', rfl⟩ : ∃ g', gk = g' + 1 := ⟨gk - 1, by omega⟩
     obtain ⟨b, o, rfl, hKb, hc⟩ := HP3.out (by omega)
     obtain ⟨b', o', rfl, hLb, hc'⟩ := HP4.out (by omega)
     obtain ⟨cs, hcl, hcell, hrel1⟩ := hc i hi
     obtain ⟨ds, hdl, hdell, hrel2⟩ := hc' i hi
     obtain ⟨y, hy⟩ : ∃ y, x.o[i] = y := ⟨_, rfl⟩
     rw [hy] at hrel1 hrel2
     have hkr : ∀ b, K b → b < wr.heap.size := fun b hb => Nat.lt_of_lt_of_le (HKK.out b hb) hbw.size
     have hlr : ∀ b, L b → b < wr.heap.size := fun b hb => Nat.lt_of_lt_of_le (HLL.out b hb) hbw.size
     have hcell2 : ∀ (p : LaterS wr.heap.size wr) j u, cs[j]? = some u → p.w.cell? ⟨b, o + i * 1 + j, none⟩ = some u := fun p j u hj => by
      rw [p.h.cell (p := ⟨b, _, none⟩) (hkr _ hKb), hbw.cell (p := ⟨b, _, none⟩) (HKK.out _ hKb)]; exact hcell j u hj
     have hdell2 : ∀ (p : LaterS wr.heap.size wr) j u, ds[j]? = some u → p.w.cell? ⟨b', o' + i * 1 + j, none⟩ = some u := fun p j u hj => by
      rw [p.h.cell (p := ⟨b', _, none⟩) (hlr _ hLb), hbw.cell (p := ⟨b', _, none⟩) (HLL.out _ hLb)]; exact hdell j u hj
     obtain ⟨u1, hcs, hl1⟩ := hrel1
     obtain ⟨u2, hds, hl2⟩ := hrel2
     rw [hcs] at hcell2
     rw [hds] at hdell2
     clear hcs hds
     have cS : Hid (∀ p : LaterS wr.heap.size wr, Calls Tryz.prog 85 #[u1, u2] p.w fun e w' => e = .returned (.bool true) ∧ Below p.w.heap.size p.w w') := fun p =>
      ints_eq u1 u2 y K L p.w (ListIs.later mInt hl1 HKK.out (hbw.trans (p.h.mono hbw.size))) (ListIs.later mInt hl2 HLL.out (hbw.trans (p.h.mono hbw.size))) (fun b hb => Nat.lt_of_lt_of_le (hkr b hb) p.h.size) (fun b hb => Nat.lt_of_lt_of_le (hlr b hb) p.h.size)
     obtain ⟨s1, f1, rfl, _, _⟩ := hl1
     obtain ⟨s2, f2, rfl, _, _⟩ := hl2
     have c0 := fun p => hcell2 p 0 _ rfl
     have e0 := fun p => hdell2 p 0 _ rfl
     simp only [Nat.add_zero, Nat.mul_one] at c0 e0
     have m0 : ∀ p : LaterS wr.heap.size wr, p.w.cell? ⟨w.heap.size, 4, none⟩ = some _ := fun p => cell_of_row (k := 4) (HG.out p.w (HB.out.trans (p.h.mono HB.out.size))).1 rfl
     have m1 : ∀ p : LaterS wr.heap.size wr, p.w.cell? ⟨w.heap.size + 1, 4, none⟩ = some _ := fun p => cell_of_row (k := 4) (HG.out p.w (HB.out.trans (p.h.mono HB.out.size))).2 rfl
     have z0 : (0 : Int) ≤ (i : Int) := by omega
     have z1 : (i : Int) < (x.o.length : Int) := by omega
     have HB3 : Hid (Below W0.heap.size W0 wr) := HB.out
     clear hc hc' hcell hdell hcell2 hdell2 hy HB hcl hdl hKb hLb hkr hlr hbw
     go_wp2_with fail
     have inhL := laterInh
     refine wp_region_laterS mixedOnS (by kernel_rfl) ?_
     repeat (go_big_quiet_step ((go_at_call 85; exact calls_laterS (cS.out _))))
     refine wpQuiet_nil ?_
     intro w2 hw'
     obtain ⟨⟨wq, hwq⟩, hw''⟩ := hw'
     subst hw''
     go_wp2_with fail
     go_roundg g'
     case measure => omega
     case rel => exact ⟨i + 1, by go_num, by omega, by omega, HB3.out.trans (hwq.mono HB3.out.size)⟩
    ·have z1 : ¬ (i : Int) < (x.o.length : Int) := by omega
     have HB2 : Hid (Below W0.heap.size W0 wr) := HB.out
     obtain ⟨g0, g1⟩ := HG.out wr HB.out
     clear HB hbw
     clear g0 g1
     go_wp2_with fail
     go_ret
     exact ⟨rfl, HB0.out.trans (HB2.out.mono HB0.out.size)⟩
set_option maxRecDepth 100000 in
set_option maxHeartbeats 2000000 in
theorem claims_eq (va vb : Value) (xs : List Clm) (K L : Nat → Prop) (w : World) (h : ListIs rClm 5 80 K w va xs) (h' : ListIs rClm 5 80 L w vb xs) (hK : ∀ b, K b → b < w.heap.size) (hL : ∀ b, L b → b < w.heap.size) :
  Calls Tryz.prog 56 #[va, vb] w fun e w' => e = .returned (.bool true) ∧ Below w.heap.size w w' := by
 obtain ⟨p, c, rfl, hby, hp⟩ := h
 obtain ⟨q, d, rfl, _, hq⟩ := h'
 have HP : Hid _ := hp
 have HQ : Hid _ := hq
 have t3 : ((xs.length : Int) != (xs.length : Int)) = false := by simp
 have HKK : Hid (∀ b, K b → b < w.heap.size) := hK
 have HLL : Hid (∀ b, L b → b < w.heap.size) := hL
 clear hp hq hK hL
 go_enter Tryz.func56, Tryz.ntmps56
 go_wp2_with fail
 go_loopg [13] xs.length (fun gf s30 wx => ∃ i : Nat, s30 = .int .i64 i ∧ i ≤ xs.length ∧ xs.length ≤ i + gf ∧ Hid (Below w.heap.size w wx))
 case atStart => exact ⟨0, rfl, by omega, by omega, Below.refl _ _⟩
 case round =>
  obtain ⟨i, rfl, hi1, hgf, HB⟩ := hrel
  by_cases hi : i < xs.length
  ·obtain ⟨g', rfl⟩ : ∃ g', gk = g' + 1 := ⟨gk - 1, by omega⟩
   obtain ⟨b, o, rfl, hKb, hc⟩ := HP.out (by omega)
   obtain ⟨b', o', rfl, hLb, hc'⟩ := HQ.out (by omega)
   obtain ⟨cs, hcl, hcell, hrel1⟩ := hc i hi
   obtain ⟨ds, hdl, hdell, hrel2⟩ := hc' i hi
   obtain ⟨x, hx⟩ : ∃ x, xs[i] = x := ⟨_, rfl⟩
   rw [hx] at hrel1 hrel2
   have hbw := HB.out
   have hkr : ∀ b, K b → b < wr.heap.size := fun b hb => Nat.lt_of_lt_of_le (HKK.out b hb) hbw.size
   have hlr : ∀ b, L b → b < wr.heap.size := fun b hb => Nat.lt_of_lt_of_le (HLL.out b hb) hbw.size
   have hcell2 : ∀ (p : LaterS wr.heap.size wr) j u, cs[j]? = some u → p.w.cell? ⟨b, o + i * 5 + j, none⟩ = some u := fun p j u hj => by
    rw [p.h.cell (p := ⟨b, _, none⟩) (hkr _ hKb), hbw.cell (p := ⟨b, _, none⟩) (HKK.out _ hKb)]; exact hcell j u hj
   have hdell2 : ∀ (p : LaterS wr.heap.size wr) j u, ds[j]? = some u → p.w.cell? ⟨b', o' + i * 5 + j, none⟩ = some u := fun p j u hj => by
    rw [p.h.cell (p := ⟨b', _, none⟩) (hlr _ hLb), hbw.cell (p := ⟨b', _, none⟩) (HLL.out _ hLb)]; exact hdell j u hj
   have cS0 : ∀ p : LaterS wr.heap.size wr, Calls Tryz.prog 86 #[.agg cs.toArray, .agg ds.toArray] p.w fun e w' => e = .returned (.bool true) ∧ Below p.w.heap.size p.w w' := fun p =>
    claim_eq cs ds x K L p.w (mClm _ _ _ _ _ _ (fun _ h => h) (kept_of HKK.out (hbw.trans (p.h.mono hbw.size))) hrel1) (mClm _ _ _ _ _ _ (fun _ h => h) (kept_of HLL.out (hbw.trans (p.h.mono hbw.size))) hrel2) (fun b hb => Nat.lt_of_lt_of_le (hkr b hb) p.h.size) (fun b hb => Nat.lt_of_lt_of_le (hlr b hb) p.h.size)
   obtain ⟨v1, v2, rfl, _, hl1, _, ho1⟩ := hrel1
   obtain ⟨u1, u2, rfl, _, hl2, _, ho2⟩ := hrel2
   have cS : Hid _ := cS0
   clear cS0
   obtain ⟨s1, f1, rfl, _, _⟩ := hl1
   obtain ⟨s2, f2, rfl, _, _⟩ := hl2
   obtain ⟨s3, f3, rfl, _, _⟩ := ho1
   obtain ⟨s4, f4, rfl, _, _⟩ := ho2
   have c0 := fun p => hcell2 p 0 _ rfl
   have e0 := fun p => hdell2 p 0 _ rfl
   have c1 := fun p => hcell2 p 1 _ rfl
   have e1 := fun p => hdell2 p 1 _ rfl
   have c2 := fun p => hcell2 p 2 _ rfl
   have e2 := fun p => hdell2 p 2 _ rfl
   have c3 := fun p => hcell2 p 3 _ rfl
   have e3 := fun p => hdell2 p 3 _ rfl
   have c4 := fun p => hcell2 p 4 _ rfl
   have e4 := fun p => hdell2 p 4 _ rfl
   simp only [Nat.add_zero, Nat.mul_one] at c0 e0
   have z0 : (0 : Int) ≤ (i : Int) := by omega
   have z1 : (i : Int) < (xs.length : Int) := by omega
   clear hc hc' hcell hdell hcell2 hdell2 hx HB hcl hdl hKb hLb hkr hlr
   go_wp2_with fail
   have inhL := laterInh
   refine wp_region_laterS mixedOnS (by kernel_rfl) ?_
   repeat (go_big_quiet_step ((go_at_call 86; exact calls_laterS (cS.out _))))
   refine wpQuiet_nil ?_
   intro w2 hw'
   obtain ⟨⟨wq, hwq⟩, hw''⟩ := hw'
   subst hw''
   go_wp2_with fail
   go_roundg g'
   case measure => omega
   case rel => exact ⟨i + 1, by go_num, by omega, by omega, hbw.trans (hwq.mono hbw.size)⟩
  ·have z1 : ¬ (i : Int) < (xs.length : Int) := by omega
   have HB2 : Hid (Below w.heap.size w wr) := HB.out
   clear HB
   go_wp2_with fail
   go_ret
   exact ⟨rfl, HB2.out⟩
end Go.Proofs.YtajomnfeicfdlaaGreatDoor
/- Bound queries that are one. -/
namespace Go.Proofs.YtajomnfeicfdlaaGreatDoor
open Go.Shelf Go.RowKit Go.Lib
set_option linter.unusedVariables false
set_option linter.unusedSimpArgs false
attribute [local go_sem ↓] Go.wp_at_zero Go.wp_at_succ
set_option maxRecDepth 100000 in
set_option maxHeartbeats 4000000 in
theorem bound_eq (cs ds : List Value) (x : Bnd) (K L : Nat → Prop) (w : World) (h : rBnd K w cs x) (h' : rBnd L w ds x) (hK : ∀ b, K b → b < w.heap.size) (hL : ∀ b, L b → b < w.heap.size) :
  Calls Tryz.prog 53 #[.agg cs.toArray, .agg ds.toArray] w fun e w' => e = .returned (.bool true) ∧ Below w.heap.size w w' := by
 obtain ⟨v1, v2, v3, v4, v5, rfl, _, _, _, _, _, l1, l2, l3, l4, l5⟩ := h
 obtain ⟨u1, u2, u3, u4, u5, rfl, _, _, _, _, _, k1, k2, k3, k4, k5⟩ := h'
 have KK : ∀ W, Below w.heap.size w W → ∀ b, K b → b < W.heap.size := fun W hb b h => Nat.lt_of_lt_of_le (hK b h) hb.size
 have LL : ∀ W, Below w.heap.size w W → ∀ b, L b → b < W.heap.size := fun W hb b h => Nat.lt_of_lt_of_le (hL b h) hb.size
 have CA : Hid (∀ W, Below w.heap.size w W → Calls Tryz.prog 82 #[v1, u1] W fun e w' => e = .returned (.bool true) ∧ Below W.heap.size W w') := fun W hb =>
  steps_eq v1 u1 x.wh K L W (ListIs.later mStp l1 hK hb) (ListIs.later mStp k1 hL hb) (KK W hb) (LL W hb)
 have CB : Hid (∀ W, Below w.heap.size w W → Calls Tryz.prog 83 #[v4, u4] W fun e w' => e = .returned (.bool true) ∧ Below W.heap.size W w') := fun W hb =>
  texts_eq v4 u4 x.nm K L W (ListIs.later mTxt l4 hK hb) (ListIs.later mTxt k4 hL hb) (KK W hb) (LL W hb)
 obtain ⟨p1, q1, rfl, _, hp1⟩ := l1
 obtain ⟨r1, s1, rfl, _, hr1⟩ := k1
 have HP1 : Hid _ := hp1
 have HR1 : Hid _ := hr1
 have t1 : ((x.wh.length : Int) != (x.wh.length : Int)) = false := by simp
 obtain ⟨p2, q2, rfl, _, hp2⟩ := l2
 obtain ⟨r2, s2, rfl, _, hr2⟩ := k2
 have HP2 : Hid _ := hp2
 have HR2 : Hid _ := hr2
 have t2 : ((x.g.length : Int) != (x.g.length : Int)) = false := by simp
 obtain ⟨p3, q3, rfl, _, hp3⟩ := l3
 obtain ⟨r3, s3, rfl, _, hr3⟩ := k3
 have HP3 : Hid _ := hp3
 have HR3 : Hid _ := hr3
 have t3 : ((x.i.length : Int) != (x.i.length : Int)) = false := by simp
 obtain ⟨p4, q4, rfl, _, hp4⟩ := l4
 obtain ⟨r4, s4, rfl, _, hr4⟩ := k4
 have HP4 : Hid _ := hp4
 have HR4 : Hid _ := hr4
 have t4 : ((x.nm.length : Int) != (x.nm.length : Int)) = false := by simp
 obtain ⟨p5, q5, rfl, _, hp5⟩ := l5
 obtain ⟨r5, s5, rfl, _, hr5⟩ := k5
 have HP5 : Hid _ := hp5
 have HR5 : Hid _ := hr5
 have t5 : ((x.kd.length : Int) != (x.kd.length : Int)) = false := by simp
 have n1 : (x.w != x.w) = false := by simp
 have n2 : (x.l != x.l) = false := by simp
 have n3 : (x.r != x.r) = false := by simp
 have n4 : (x.gr != x.gr) = false := by simp
 have HKK : Hid (∀ b, K b → b < w.heap.size) := hK
 have HLL : Hid (∀ b, L b → b < w.heap.size) := hL
 obtain ⟨W0, hW0, hb0, hs0, hg⟩ := two_boxesB w #[.string x.t, .string x.j, .int .i64 x.w, .int .i64 x.l, .int .i64 x.r, .slice p1 x.wh.length q1, .slice p2 x.g.length q2, .slice p3 x.i.length q3, .bool x.gr, .slice p4 x.nm.length q4, .slice p5 x.kd.length q5] #[.string x.t, .string x.j, .int .i64 x.w, .int .i64 x.l, .int .i64 x.r, .slice r1 x.wh.length s1, .slice r2 x.g.length s2, .slice r3 x.i.length s3, .bool x.gr, .slice r4 x.nm.length s4, .slice r5 x.kd.length s5] 54
 have HG : Hid _ := hg
 obtain ⟨g0, g1⟩ := hg W0 (Below.refl _ _)
 have x0 := cell_of_row (k := 0) g0 rfl
 have y0 := cell_of_row (k := 0) g1 rfl
 have x1 := cell_of_row (k := 1) g0 rfl
 have y1 := cell_of_row (k := 1) g1 rfl
 have x2 := cell_of_row (k := 2) g0 rfl
 have y2 := cell_of_row (k := 2) g1 rfl
 have x3 := cell_of_row (k := 3) g0 rfl
 have y3 := cell_of_row (k := 3) g1 rfl
 have x4 := cell_of_row (k := 4) g0 rfl
 have y4 := cell_of_row (k := 4) g1 rfl
 have x5 := cell_of_row (k := 5) g0 rfl
 have y5 := cell_of_row (k := 5) g1 rfl
 have x8 := cell_of_row (k := 8) g0 rfl
 have y8 := cell_of_row (k := 8) g1 rfl
 have HB0 : Hid (Below w.heap.size w W0) := hb0
 clear hp1 hp2 hp3 hp4 hp5 hr1 hr2 hr3 hr4 hr5 hK hL hb0 hs0 hg g0 g1 KK LL
 go_enter Tryz.func53, Tryz.ntmps53
 go_wp2_with fail
 refine (CA.out W0 HB0.out).mono ?_
 rintro e w2 ⟨rfl, hb2⟩
 obtain ⟨g0, g1⟩ := HG.out w2 hb2
 have x9 := cell_of_row (k := 9) g0 rfl
 have y9 := cell_of_row (k := 9) g1 rfl
 have HB2 : Hid (Below W0.heap.size W0 w2) := hb2
 clear hb2 g0 g1
 go_wp2_with fail
 refine (CB.out w2 (HB0.out.trans (HB2.out.mono HB0.out.size))).mono ?_
 rintro e w3 ⟨rfl, hb3⟩
 have HV0 : Hid (Below W0.heap.size W0 w3) := HB2.out.trans (hb3.mono HB2.out.size)
 obtain ⟨g0, g1⟩ := HG.out w3 HV0.out
 have x6 := cell_of_row (k := 6) g0 rfl
 have y6 := cell_of_row (k := 6) g1 rfl
 have x7 := cell_of_row (k := 7) g0 rfl
 have y7 := cell_of_row (k := 7) g1 rfl
 have x10 := cell_of_row (k := 10) g0 rfl
 have y10 := cell_of_row (k := 10) g1 rfl
 clear hb3 g0 g1 HB2
 go_wp2_with fail
 go_loopg [92] x.g.length (fun gf s30 wx => ∃ i : Nat, s30 = .int .i64 i ∧ i ≤ x.g.length ∧ x.g.length ≤ i + gf ∧ Hid (Below W0.heap.size W0 wx))
 case atStart => exact ⟨0, rfl, by omega, by omega, HV0⟩
 case round =>
  obtain ⟨i, rfl, hi1, hgf, HB⟩ := hrel
  have hbw : Below w.heap.size w wr := HB0.out.trans (HB.out.mono HB0.out.size)
  obtain ⟨g0, g1⟩ := HG.out wr HB.out
  by_cases hi : i < x.g.length
  ·obtain ⟨g', rfl⟩ : ∃ g', gk = g' + 1 := ⟨gk - 1, by omega⟩
   obtain ⟨b, o, rfl, hKb, hc⟩ := HP2.out (by omega)
   obtain ⟨b', o', rfl, hLb, hc'⟩ := HR2.out (by omega)
   obtain ⟨cs, hcl, hcell, hrel1⟩ := hc i hi
   obtain ⟨ds, hdl, hdell, hrel2⟩ := hc' i hi
   obtain ⟨y, hy⟩ : ∃ y, x.g[i] = y := ⟨_, rfl⟩
   rw [hy] at hrel1 hrel2
   have hcs := hrel1.1
   have hds := hrel2.1
   have hcell2 : ∀ j u, cs[j]? = some u → wr.cell? ⟨b, o + i * 1 + j, none⟩ = some u := fun j u hj => by rw [hbw.cell (p := ⟨b, _, none⟩) (HKK.out _ hKb)]; exact hcell j u hj
   have hdell2 : ∀ j u, ds[j]? = some u → wr.cell? ⟨b', o' + i * 1 + j, none⟩ = some u := fun j u hj => by rw [hbw.cell (p := ⟨b', _, none⟩) (HLL.out _ hLb)]; exact hdell j u hj
   rw [hcs] at hcell2
   rw [hds] at hdell2
   have c0 := hcell2 0 _ rfl
   have e0 := hdell2 0 _ rfl
   simp only [Nat.add_zero, Nat.mul_one] at c0 e0
   have m0 := cell_of_row (k := 6) g0 rfl
   have m1 := cell_of_row (k := 6) g1 rfl
   have z0 : (0 : Int) ≤ (i : Int) := by omega
   have z1 : (i : Int) < (x.g.length : Int) := by omega
   have HB3 : Hid (Below W0.heap.size W0 wr) := HB.out
   clear hc hc' hcell hdell hcell2 hdell2 hrel1 hrel2 hy HB hcl hdl hKb hLb hcs hds hbw g0 g1
   have n5 : (y != y) = false := by simp
   go_wp2_with fail
   go_quiet (fail)
   go_wp2_with fail
   go_roundg g'
   case measure => omega
   case rel => exact ⟨i + 1, by go_num, by omega, by omega, below_drewN HB3.out _⟩
  ·have z1 : ¬ (i : Int) < (x.g.length : Int) := by omega
   have HB2 : Hid (Below W0.heap.size W0 wr) := HB.out
   clear HB hbw
   clear HV0
   have m0 := cell_of_row (k := 10) g0 rfl
   have m1 := cell_of_row (k := 10) g1 rfl
   clear g0 g1
   go_wp2_with fail
   have HV0 := HB2
   clear HB2 m0 m1 z1 hi hi1 hgf
   obtain ⟨V0, hV0⟩ : ∃ V0, V0 = wr := ⟨_, rfl⟩
   subst hV0
   go_loopg [110] x.kd.length (fun gf s30 wx => ∃ i : Nat, s30 = .int .i64 i ∧ i ≤ x.kd.length ∧ x.kd.length ≤ i + gf ∧ Hid (Below W0.heap.size W0 wx))
   case atStart => exact ⟨0, rfl, by omega, by omega, HV0⟩
   case round =>
    clear HV0
    obtain ⟨i, rfl, hi1, hgf, HB⟩ := hrel
    have hbw : Below w.heap.size w wr := HB0.out.trans (HB.out.mono HB0.out.size)
    obtain ⟨g0, g1⟩ := HG.out wr HB.out
    by_cases hi : i < x.kd.length
    ·obtain ⟨g', rfl⟩ : ∃ g', gk = g' + 1 := ⟨gk - 1, by omega⟩
     obtain ⟨b, o, rfl, hKb, hc⟩ := HP5.out (by omega)
     obtain ⟨b', o', rfl, hLb, hc'⟩ := HR5.out (by omega)
     obtain ⟨cs, hcl, hcell, hrel1⟩ := hc i hi
     obtain ⟨ds, hdl, hdell, hrel2⟩ := hc' i hi
     obtain ⟨y, hy⟩ : ∃ y, x.kd[i] = y := ⟨_, rfl⟩
     rw [hy] at hrel1 hrel2
     have hcs := hrel1.1
     have hds := hrel2.1
     have hcell2 : ∀ j u, cs[j]? = some u → wr.cell? ⟨b, o + i * 1 + j, none⟩ = some u := fun j u hj => by rw [hbw.cell (p := ⟨b, _, none⟩) (HKK.out _ hKb)]; exact hcell j u hj
     have hdell2 : ∀ j u, ds[j]? = some u → wr.cell? ⟨b', o' + i * 1 + j, none⟩ = some u := fun j u hj => by rw [hbw.cell (p := ⟨b', _, none⟩) (HLL.out _ hLb)]; exact hdell j u hj
     rw [hcs] at hcell2
     rw [hds] at hdell2
     have c0 := hcell2 0 _ rfl
     have e0 := hdell2 0 _ rfl
     simp only [Nat.add_zero, Nat.mul_one] at c0 e0
     have m0 := cell_of_row (k := 10) g0 rfl
     have m1 := cell_of_row (k := 10) g1 rfl
     have z0 : (0 : Int) ≤ (i : Int) := by omega
     have z1 : (i : Int) < (x.kd.length : Int) := by omega
     have HB3 : Hid (Below W0.heap.size W0 wr) := HB.out
     clear hc hc' hcell hdell hcell2 hdell2 hrel1 hrel2 hy HB hcl hdl hKb hLb hcs hds hbw g0 g1
     have n5 : ((y : Int) != (y : Int)) = false := by simp
     go_wp2_with fail
     go_quiet (fail)
     go_wp2_with fail
     go_roundg g'
     case measure => omega
     case rel => exact ⟨i + 1, by go_num, by omega, by omega, below_drewN HB3.out _⟩
    ·have z1 : ¬ (i : Int) < (x.kd.length : Int) := by omega
     have HB2 : Hid (Below W0.heap.size W0 wr) := HB.out
     clear HB hbw
     have m0 := cell_of_row (k := 7) g0 rfl
     have m1 := cell_of_row (k := 7) g1 rfl
     clear g0 g1
     go_wp2_with fail
     have HV0 := HB2
     clear HB2 m0 m1 z1 hi hi1 hgf
     obtain ⟨V0, hV0⟩ : ∃ V0, V0 = wr := ⟨_, rfl⟩
     subst hV0
     go_loopg [128] x.i.length (fun gf s30 wx => ∃ i : Nat, s30 = .int .i64 i ∧ i ≤ x.i.length ∧ x.i.length ≤ i + gf ∧ Hid (Below W0.heap.size W0 wx))
     case atStart => exact ⟨0, rfl, by omega, by omega, HV0⟩
     case round =>
      obtain ⟨i, rfl, hi1, hgf, HB⟩ := hrel
      have hbw : Below w.heap.size w wr := HB0.out.trans (HB.out.mono HB0.out.size)
      by_cases hi : i < x.i.length
      ·obtain ⟨g', rfl⟩ : ∃ g', gk = g' + 1 := ⟨gk - 1, by omega⟩
       obtain ⟨b, o, rfl, hKb, hc⟩ := HP3.out (by omega)
       obtain ⟨b', o', rfl, hLb, hc'⟩ := HR3.out (by omega)
       obtain ⟨cs, hcl, hcell, hrel1⟩ := hc i hi
       obtain ⟨ds, hdl, hdell, hrel2⟩ := hc' i hi
       obtain ⟨y, hy⟩ : ∃ y, x.i[i] = y := ⟨_, rfl⟩
       rw [hy] at hrel1 hrel2
       have hkr : ∀ b, K b → b < wr.heap.size := fun b hb => Nat.lt_of_lt_of_le (HKK.out b hb) hbw.size
       have hlr : ∀ b, L b → b < wr.heap.size := fun b hb => Nat.lt_of_lt_of_le (HLL.out b hb) hbw.size
       have hcell2 : ∀ (p : LaterS wr.heap.size wr) j u, cs[j]? = some u → p.w.cell? ⟨b, o + i * 2 + j, none⟩ = some u := fun p j u hj => by
        rw [p.h.cell (p := ⟨b, _, none⟩) (hkr _ hKb), hbw.cell (p := ⟨b, _, none⟩) (HKK.out _ hKb)]; exact hcell j u hj
       have hdell2 : ∀ (p : LaterS wr.heap.size wr) j u, ds[j]? = some u → p.w.cell? ⟨b', o' + i * 2 + j, none⟩ = some u := fun p j u hj => by
        rw [p.h.cell (p := ⟨b', _, none⟩) (hlr _ hLb), hbw.cell (p := ⟨b', _, none⟩) (HLL.out _ hLb)]; exact hdell j u hj
       obtain ⟨u1, hcs, _, hl1⟩ := hrel1
       obtain ⟨u2, hds, _, hl2⟩ := hrel2
       rw [hcs] at hcell2
       rw [hds] at hdell2
       clear hcs hds
       have n5 : ((y.g : Int) != (y.g : Int)) = false := by simp
       have cS : Hid (∀ p : LaterS wr.heap.size wr, Calls Tryz.prog 82 #[u1, u2] p.w fun e w' => e = .returned (.bool true) ∧ Below p.w.heap.size p.w w') := fun p =>
        steps_eq u1 u2 y.e K L p.w (ListIs.later mStp hl1 HKK.out (hbw.trans (p.h.mono hbw.size))) (ListIs.later mStp hl2 HLL.out (hbw.trans (p.h.mono hbw.size))) (fun b hb => Nat.lt_of_lt_of_le (hkr b hb) p.h.size) (fun b hb => Nat.lt_of_lt_of_le (hlr b hb) p.h.size)
       obtain ⟨s1, f1, rfl, _, _⟩ := hl1
       obtain ⟨s2, f2, rfl, _, _⟩ := hl2
       have c0 := fun p => hcell2 p 0 _ rfl
       have e0 := fun p => hdell2 p 0 _ rfl
       have c1 := fun p => hcell2 p 1 _ rfl
       have e1 := fun p => hdell2 p 1 _ rfl
       simp only [Nat.add_zero, Nat.mul_one] at c0 e0
       have m0 : ∀ p : LaterS wr.heap.size wr, p.w.cell? ⟨w.heap.size, 7, none⟩ = some _ := fun p => cell_of_row (k := 7) (HG.out p.w (HB.out.trans (p.h.mono HB.out.size))).1 rfl
       have m1 : ∀ p : LaterS wr.heap.size wr, p.w.cell? ⟨w.heap.size + 1, 7, none⟩ = some _ := fun p => cell_of_row (k := 7) (HG.out p.w (HB.out.trans (p.h.mono HB.out.size))).2 rfl
       have z0 : (0 : Int) ≤ (i : Int) := by omega
       have z1 : (i : Int) < (x.i.length : Int) := by omega
       have HB3 : Hid (Below W0.heap.size W0 wr) := HB.out
       clear hc hc' hcell hdell hcell2 hdell2 hy HB hcl hdl hKb hLb hkr hlr hbw
       go_wp2_with fail
       have inhL := laterInh
       refine wp_region_laterS mixedOnS (by kernel_rfl) ?_
       repeat (go_big_quiet_step ((go_at_call 82; exact calls_laterS (cS.out _))))
       refine wpQuiet_nil ?_
       intro w2 hw'
       obtain ⟨⟨wq, hwq⟩, hw''⟩ := hw'
       subst hw''
       go_wp2_with fail
       go_roundg g'
       case measure => omega
       case rel => exact ⟨i + 1, by go_num, by omega, by omega, HB3.out.trans (hwq.mono HB3.out.size)⟩
      ·have z1 : ¬ (i : Int) < (x.i.length : Int) := by omega
       have HB2 : Hid (Below W0.heap.size W0 wr) := HB.out
       obtain ⟨g0, g1⟩ := HG.out wr HB.out
       clear HB hbw
       clear g0 g1
       go_wp2_with fail
       go_ret
       exact ⟨rfl, HB0.out.trans (HB2.out.mono HB0.out.size)⟩
end Go.Proofs.YtajomnfeicfdlaaGreatDoor
