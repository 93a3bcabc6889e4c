/- What bare and Check answer. -/
import Derived.Test.YtajomnfeicfdlaaGreatDoorTxtCmp
import Derived.Laws.StructEq
import Derived.Deep.RegionHeld3
import Derived.Deep.DrawnRows
import Derived.Deep.QuietTactic
import Derived.BigQuiet
namespace Go.Proofs.YtajomnfeicfdlaaGreatDoor
open Go.RowKit Go.Lib
set_option linter.unusedVariables false
attribute [local go_sem ↓] Go.wp_at_zero Go.wp_at_succ

/-- Two values are one. -/
def sameV (x y : Val) : Bool := x.k == y.k && (x.b == y.b && (x.n == y.n && x.s.toList == y.s.toList))
theorem sameV_iff (x y : Val) : sameV x y = true ↔ x = y := by
 obtain ⟨k, b, n, s⟩ := x
 obtain ⟨k', b', n', s'⟩ := y
 simp only [sameV, Bool.and_eq_true, beq_iff_eq, Val.mk.injEq]
 constructor
 ·rintro ⟨rfl, rfl, rfl, h⟩
  refine ⟨rfl, rfl, rfl, ?_⟩
  rw [Lib.toList_data, Lib.toList_data] at h
  exact ByteArray.ext (Array.ext' h)
 ·rintro ⟨rfl, rfl, rfl, rfl⟩
  exact ⟨rfl, rfl, rfl, rfl⟩
theorem eql_core (k k' : Int) (b b' : Bool) (n n' : Int) (s s' : ByteArray) (w : World) :
  (binOp .eql 184 (.agg #[.int .u8 k, .bool b, .int .i64 n, .string s]) (.agg #[.int .u8 k', .bool b', .int .i64 n', .string s'])).run Tryz.prog w = .ok (.bool (sameV ⟨k, b, n, s⟩ ⟨k', b', n', s'⟩)) w := by
 have hS : Tryz.prog.underlying 184 = some (.struct (Tryz.prog.fieldsOf 184)) := by kernel_rfl
 have hp : Tryz.prog.stoodInHeld 184 = false := by kernel_rfl
 have u22 := Tryz.underlying146; have a22 := Tryz.isAgg146; have z22 := Tryz.sizeOf146
 have u4 := Tryz.underlying4; have a4 := Tryz.isAgg4; have z4 := Tryz.sizeOf4
 have u2 := Tryz.underlying2; have a2 := Tryz.isAgg2; have z2 := Tryz.sizeOf2
 have u9 := Tryz.underlying9; have a9 := Tryz.isAgg9; have z9 := Tryz.sizeOf9
 unfold sameV
 rw [run_eql_struct, show (10000 : Nat) = 9999 + 1 from rfl, run_equalIn_struct w 9999 184 _ _ hS hp]
 simp only [Program.fieldsOf, Tryz.underlying184]
 go_simp
 by_cases h1 : k = k' <;> by_cases h2 : b = b' <;> by_cases h3 : n = n' <;> by_cases h4 : s.toList = s'.toList <;> simp [h1, h2, h3, h4]
theorem neq_core (k k' : Int) (b b' : Bool) (n n' : Int) (s s' : ByteArray) (w : World) :
  (binOp .neq 184 (.agg #[.int .u8 k, .bool b, .int .i64 n, .string s]) (.agg #[.int .u8 k', .bool b', .int .i64 n', .string s'])).run Tryz.prog w = .ok (.bool (!sameV ⟨k, b, n, s⟩ ⟨k', b', n', s'⟩)) w := by
 have h := eql_core k k' b b' n n' s s' w
 simp only [binOp, Sem.run_bind] at h ⊢
 generalize (Op.equal 184 (.agg #[.int .u8 k, .bool b, .int .i64 n, .string s]) (.agg #[.int .u8 k', .bool b', .int .i64 n', .string s'])).run Tryz.prog w = r at h ⊢
 cases r <;> simp_all

def Val.bare (v : Val) : Val := ⟨v.k, if v.k = 1 then v.b else false, if v.k = 2 then v.n else 0, if v.k = 3 then v.s else ⟨#[]⟩⟩
theorem below_three {w : World} (o1 o2 o3 : Obj) : Below w.heap.size w (((w.alloc o1).alloc o2).alloc o3) :=
 (below_two _ _).alloc (by simp; omega) _
set_option maxHeartbeats 1000000 in
theorem bare_core (k : Int) (b : Bool) (n : Int) (s : ByteArray) (w : World) :
  Calls Tryz.prog 163 #[.agg #[.int .u8 k, .bool b, .int .i64 n, .string s]] w fun e w' => e = .returned (Val.bare ⟨k, b, n, s⟩).agg ∧ Below w.heap.size w w' := by
 by_cases h1 : k = 1
 ·subst h1
  have hv : (Val.bare ⟨1, b, n, s⟩).agg = .agg #[.int .u8 1, .bool b, .int .i64 0, .string ⟨#[]⟩] := by simp [Val.bare, Val.agg]
  rw [hv]
  clear hv
  go_enter Tryz.func163, Tryz.ntmps163
  go_wp2
  exact bodyPost_ret (v := .agg #[.int .u8 1, .bool b, .int .i64 0, .string ⟨#[]⟩]) (by simp [results, Tryz.results163, go_sem]) rfl ⟨rfl, below_three _ _ _⟩
 have h1' : (k == 1) = false := beq_eq_false_iff_ne.2 h1
 by_cases h2 : k = 2
 ·subst h2
  have hv : (Val.bare ⟨2, b, n, s⟩).agg = .agg #[.int .u8 2, .bool false, .int .i64 n, .string ⟨#[]⟩] := by simp [Val.bare, Val.agg]
  rw [hv]
  clear hv
  go_enter Tryz.func163, Tryz.ntmps163
  go_wp2
  exact bodyPost_ret (v := .agg #[.int .u8 2, .bool false, .int .i64 n, .string ⟨#[]⟩]) (by simp [results, Tryz.results163, go_sem]) rfl ⟨rfl, below_three _ _ _⟩
 have h2' : (k == 2) = false := beq_eq_false_iff_ne.2 h2
 by_cases h3 : k = 3
 ·subst h3
  have hv : (Val.bare ⟨3, b, n, s⟩).agg = .agg #[.int .u8 3, .bool false, .int .i64 0, .string s] := by simp [Val.bare, Val.agg]
  rw [hv]
  clear hv
  go_enter Tryz.func163, Tryz.ntmps163
  go_wp2
  exact bodyPost_ret (v := .agg #[.int .u8 3, .bool false, .int .i64 0, .string s]) (by simp [results, Tryz.results163, go_sem]) rfl ⟨rfl, below_three _ _ _⟩
 ·have h3' : (k == 3) = false := beq_eq_false_iff_ne.2 h3
  have hv : (Val.bare ⟨k, b, n, s⟩).agg = .agg #[.int .u8 k, .bool false, .int .i64 0, .string ⟨#[]⟩] := by simp [Val.bare, Val.agg, h1, h2, h3]
  rw [hv]
  clear hv h1 h2 h3
  go_enter Tryz.func163, Tryz.ntmps163
  go_wp2
  exact bodyPost_ret (v := .agg #[.int .u8 k, .bool false, .int .i64 0, .string ⟨#[]⟩]) (by simp [results, Tryz.results163, go_sem]) rfl ⟨rfl, below_three _ _ _⟩

set_option maxHeartbeats 1000000 in
theorem check_big (k : Int) (b : Bool) (n : Int) (s : ByteArray) (w : World) (hk : 4 ≤ k) (hd : decide (4 ≤ k) = true) :
  Calls Tryz.prog 160 #[.agg #[.int .u8 k, .bool b, .int .i64 n, .string s]] w fun e w' => e = .returned (.int .i64 5) ∧ Below w.heap.size w w' := by
 go_enter Tryz.func160, Tryz.ntmps160
 go_wp2
 go_quiet (fail)
 go_wp2
 go_ret
 exact ⟨rfl, below_drewN ((Below.refl _ _).alloc (Nat.le_refl _) _) _⟩

set_option maxHeartbeats 1000000 in
theorem check_typ (k : Int) (b : Bool) (n : Int) (s : ByteArray) (w : World) (hk : ¬ 4 ≤ k) (hd : decide (4 ≤ k) = false) (t : sameV ⟨k, b, n, s⟩ (Val.bare ⟨k, b, n, s⟩) = false) :
  Calls Tryz.prog 160 #[.agg #[.int .u8 k, .bool b, .int .i64 n, .string s]] w fun e w' => e = .returned (.int .i64 5) ∧ Below w.heap.size w w' := by
 have cB := bare_core k b n s
 have hq := neq_core k (Val.bare ⟨k, b, n, s⟩).k b (Val.bare ⟨k, b, n, s⟩).b n (Val.bare ⟨k, b, n, s⟩).n s (Val.bare ⟨k, b, n, s⟩).s
 simp only [Val.agg] at cB
 rw [show (⟨(Val.bare ⟨k, b, n, s⟩).k, (Val.bare ⟨k, b, n, s⟩).b, (Val.bare ⟨k, b, n, s⟩).n, (Val.bare ⟨k, b, n, s⟩).s⟩ : Val) = Val.bare ⟨k, b, n, s⟩ from rfl, t] at hq
 clear t
 obtain ⟨k', hk'⟩ : ∃ x, (Val.bare ⟨k, b, n, s⟩).k = x := ⟨_, rfl⟩
 obtain ⟨b', hb'⟩ : ∃ x, (Val.bare ⟨k, b, n, s⟩).b = x := ⟨_, rfl⟩
 obtain ⟨n', hn'⟩ : ∃ x, (Val.bare ⟨k, b, n, s⟩).n = x := ⟨_, rfl⟩
 obtain ⟨s', hs'⟩ : ∃ x, (Val.bare ⟨k, b, n, s⟩).s = x := ⟨_, rfl⟩
 rw [hk', hb', hn', hs'] at cB hq
 clear hk' hb' hn' hs'
 have cB2 : Hid (∀ w, Calls Tryz.prog 163 #[.agg #[.int .u8 k, .bool b, .int .i64 n, .string s]] w fun e w' => e = .returned (.agg #[.int .u8 k', .bool b', .int .i64 n', .string s']) ∧ Below w.heap.size w w') := cB
 clear cB
 go_enter Tryz.func160, Tryz.ntmps160
 go_wp2
 go_region_held3 (fun w' => w'.cell? ⟨w.heap.size, 0, none⟩ = some (.int .u8 k) ∧ w'.cell? ⟨w.heap.size, 1, none⟩ = some (.bool b) ∧ w'.cell? ⟨w.heap.size, 2, none⟩ = some (.int .i64 n) ∧ w'.cell? ⟨w.heap.size, 3, none⟩ = some (.string s)) (first | (go_split_ands; refine ⟨?_, ?_, ?_, ?_⟩ <;> (rw [hb1.cell (by simp)]; simp)) | go_keep)
  ((go_at_call 163; refine (cB2.out _).mono ?_; rintro e w1 ⟨rfl, hb1⟩))
 go_wp2
 go_ret
 exact ⟨rfl, (below_drewN ((Below.refl _ _).alloc (Nat.le_refl _) _) 1).trans (hb1.mono (by simp))⟩
end Go.Proofs.YtajomnfeicfdlaaGreatDoor
