/- What bare and Check answer. -/
import Derived.Test.YtaobmaehbkancaaDoorTxtCmp
import Derived.Laws.StructEq
import Derived.Deep.RegionHeld3
import Derived.Deep.DrawnRows
import Derived.Deep.QuietTactic
import Derived.BigQuiet
namespace Go.Proofs.YtaobmaehbkancaaDoor
open Go.RowKit Go.Lib
set_option linter.unusedVariables false
attribute [local go_sem ↓] Go.wp_at_zero Go.wp_at_succ

/-- Two values are one. -/
def sameV (x y : Val) : Bool := x.k == y.k && (x.b == y.b && (x.n == y.n && x.s.toList == y.s.toList))
theorem sameV_iff (x y : Val) : sameV x y = true ↔ x = y := by
  obtain ⟨k, b, n, s⟩ := x
  obtain ⟨k', b', n', s'⟩ := y
  simp only [sameV, Bool.and_eq_true, beq_iff_eq, Val.mk.injEq]
  constructor
  · rintro ⟨rfl, rfl, rfl, h⟩
    refine ⟨rfl, rfl, rfl, ?_⟩
    rw [Lib.toList_data, Lib.toList_data] at h
    exact ByteArray.ext (Array.ext' h)
  · rintro ⟨rfl, rfl, rfl, rfl⟩
    exact ⟨rfl, rfl, rfl, rfl⟩
theorem eql_core (k k' : Int) (b b' : Bool) (n n' : Int) (s s' : ByteArray) (w : World) :
    (binOp .eql 140 (.agg #[.int .u8 k, .bool b, .int .i64 n, .string s]) (.agg #[.int .u8 k', .bool b', .int .i64 n', .string s'])).run Tryd.prog w = .ok (.bool (sameV ⟨k, b, n, s⟩ ⟨k', b', n', s'⟩)) w := by
  have hS : Tryd.prog.underlying 140 = some (.struct (Tryd.prog.fieldsOf 140)) := by kernel_rfl
  have hp : Tryd.prog.stoodInHeld 140 = false := by kernel_rfl
  have u22 := Tryd.underlying102; have a22 := Tryd.isAgg102; have z22 := Tryd.sizeOf102
  have u4 := Tryd.underlying4; have a4 := Tryd.isAgg4; have z4 := Tryd.sizeOf4
  have u2 := Tryd.underlying2; have a2 := Tryd.isAgg2; have z2 := Tryd.sizeOf2
  have u9 := Tryd.underlying9; have a9 := Tryd.isAgg9; have z9 := Tryd.sizeOf9
  unfold sameV
  rw [run_eql_struct, show (10000 : Nat) = 9999 + 1 from rfl, run_equalIn_struct w 9999 140 _ _ hS hp]
  simp only [Program.fieldsOf, Tryd.underlying140]
  go_simp
  by_cases h1 : k = k' <;> by_cases h2 : b = b' <;> by_cases h3 : n = n' <;> by_cases h4 : s.toList = s'.toList <;> simp [h1, h2, h3, h4]
theorem neq_core (k k' : Int) (b b' : Bool) (n n' : Int) (s s' : ByteArray) (w : World) :
    (binOp .neq 140 (.agg #[.int .u8 k, .bool b, .int .i64 n, .string s]) (.agg #[.int .u8 k', .bool b', .int .i64 n', .string s'])).run Tryd.prog w = .ok (.bool (!sameV ⟨k, b, n, s⟩ ⟨k', b', n', s'⟩)) w := by
  have h := eql_core k k' b b' n n' s s' w
  simp only [binOp, Sem.run_bind] at h ⊢
  generalize (Op.equal 140 (.agg #[.int .u8 k, .bool b, .int .i64 n, .string s]) (.agg #[.int .u8 k', .bool b', .int .i64 n', .string s'])).run Tryd.prog w = r at h ⊢
  cases r <;> simp_all

def Val.bare (v : Val) : Val := ⟨v.k, if v.k = 1 then v.b else false, if v.k = 2 then v.n else 0, if v.k = 3 then v.s else ⟨#[]⟩⟩
theorem below_three {w : World} (o1 o2 o3 : Obj) : Below w.heap.size w (((w.alloc o1).alloc o2).alloc o3) :=
  (below_two _ _).alloc (by simp; omega) _
set_option maxHeartbeats 1000000 in
theorem bare_core (k : Int) (b : Bool) (n : Int) (s : ByteArray) (w : World) :
    Calls Tryd.prog 75 #[.agg #[.int .u8 k, .bool b, .int .i64 n, .string s]] w fun e w' => e = .returned (Val.bare ⟨k, b, n, s⟩).agg ∧ Below w.heap.size w w' := by
  by_cases h1 : k = 1
  · subst h1
    have hv : (Val.bare ⟨1, b, n, s⟩).agg = .agg #[.int .u8 1, .bool b, .int .i64 0, .string ⟨#[]⟩] := by simp [Val.bare, Val.agg]
    rw [hv]
    clear hv
    go_enter Tryd.func75, Tryd.ntmps75
    go_wp2
    exact bodyPost_ret (v := .agg #[.int .u8 1, .bool b, .int .i64 0, .string ⟨#[]⟩]) (by simp [results, Tryd.results75, go_sem]) rfl ⟨rfl, below_three _ _ _⟩
  have h1' : (k == 1) = false := beq_eq_false_iff_ne.2 h1
  by_cases h2 : k = 2
  · subst h2
    have hv : (Val.bare ⟨2, b, n, s⟩).agg = .agg #[.int .u8 2, .bool false, .int .i64 n, .string ⟨#[]⟩] := by simp [Val.bare, Val.agg]
    rw [hv]
    clear hv
    go_enter Tryd.func75, Tryd.ntmps75
    go_wp2
    exact bodyPost_ret (v := .agg #[.int .u8 2, .bool false, .int .i64 n, .string ⟨#[]⟩]) (by simp [results, Tryd.results75, go_sem]) rfl ⟨rfl, below_three _ _ _⟩
  have h2' : (k == 2) = false := beq_eq_false_iff_ne.2 h2
  by_cases h3 : k = 3
  · subst h3
    have hv : (Val.bare ⟨3, b, n, s⟩).agg = .agg #[.int .u8 3, .bool false, .int .i64 0, .string s] := by simp [Val.bare, Val.agg]
    rw [hv]
    clear hv
    go_enter Tryd.func75, Tryd.ntmps75
    go_wp2
    exact bodyPost_ret (v := .agg #[.int .u8 3, .bool false, .int .i64 0, .string s]) (by simp [results, Tryd.results75, go_sem]) rfl ⟨rfl, below_three _ _ _⟩
  · have h3' : (k == 3) = false := beq_eq_false_iff_ne.2 h3
    have hv : (Val.bare ⟨k, b, n, s⟩).agg = .agg #[.int .u8 k, .bool false, .int .i64 0, .string ⟨#[]⟩] := by simp [Val.bare, Val.agg, h1, h2, h3]
    rw [hv]
    clear hv h1 h2 h3
    go_enter Tryd.func75, Tryd.ntmps75
    go_wp2
    exact bodyPost_ret (v := .agg #[.int .u8 k, .bool false, .int .i64 0, .string ⟨#[]⟩]) (by simp [results, Tryd.results75, go_sem]) rfl ⟨rfl, below_three _ _ _⟩

set_option maxHeartbeats 1000000 in
theorem check_big (k : Int) (b : Bool) (n : Int) (s : ByteArray) (w : World) (hk : 4 ≤ k) (hd : decide (4 ≤ k) = true) :
    Calls Tryd.prog 72 #[.agg #[.int .u8 k, .bool b, .int .i64 n, .string s]] w fun e w' => e = .returned (.int .i64 5) ∧ Below w.heap.size w w' := by
  go_enter Tryd.func72, Tryd.ntmps72
  go_wp2
  go_quiet (fail)
  go_wp2
  go_ret
  exact ⟨rfl, below_drewN ((Below.refl _ _).alloc (Nat.le_refl _) _) _⟩

set_option maxHeartbeats 1000000 in
theorem check_typ (k : Int) (b : Bool) (n : Int) (s : ByteArray) (w : World) (hk : ¬ 4 ≤ k) (hd : decide (4 ≤ k) = false) (t : sameV ⟨k, b, n, s⟩ (Val.bare ⟨k, b, n, s⟩) = false) :
    Calls Tryd.prog 72 #[.agg #[.int .u8 k, .bool b, .int .i64 n, .string s]] w fun e w' => e = .returned (.int .i64 5) ∧ Below w.heap.size w w' := by
  have cB := bare_core k b n s
  have hq := neq_core k (Val.bare ⟨k, b, n, s⟩).k b (Val.bare ⟨k, b, n, s⟩).b n (Val.bare ⟨k, b, n, s⟩).n s (Val.bare ⟨k, b, n, s⟩).s
  simp only [Val.agg] at cB
  rw [show (⟨(Val.bare ⟨k, b, n, s⟩).k, (Val.bare ⟨k, b, n, s⟩).b, (Val.bare ⟨k, b, n, s⟩).n, (Val.bare ⟨k, b, n, s⟩).s⟩ : Val) = Val.bare ⟨k, b, n, s⟩ from rfl, t] at hq
  clear t
  obtain ⟨k', hk'⟩ : ∃ x, (Val.bare ⟨k, b, n, s⟩).k = x := ⟨_, rfl⟩
  obtain ⟨b', hb'⟩ : ∃ x, (Val.bare ⟨k, b, n, s⟩).b = x := ⟨_, rfl⟩
  obtain ⟨n', hn'⟩ : ∃ x, (Val.bare ⟨k, b, n, s⟩).n = x := ⟨_, rfl⟩
  obtain ⟨s', hs'⟩ : ∃ x, (Val.bare ⟨k, b, n, s⟩).s = x := ⟨_, rfl⟩
  rw [hk', hb', hn', hs'] at cB hq
  clear hk' hb' hn' hs'
  have cB2 : Hid (∀ w, Calls Tryd.prog 75 #[.agg #[.int .u8 k, .bool b, .int .i64 n, .string s]] w fun e w' => e = .returned (.agg #[.int .u8 k', .bool b', .int .i64 n', .string s']) ∧ Below w.heap.size w w') := cB
  clear cB
  go_enter Tryd.func72, Tryd.ntmps72
  go_wp2
  go_region_held3 (fun w' => w'.cell? ⟨w.heap.size, 0, none⟩ = some (.int .u8 k) ∧ w'.cell? ⟨w.heap.size, 1, none⟩ = some (.bool b) ∧ w'.cell? ⟨w.heap.size, 2, none⟩ = some (.int .i64 n) ∧ w'.cell? ⟨w.heap.size, 3, none⟩ = some (.string s)) (first | (go_split_ands; refine ⟨?_, ?_, ?_, ?_⟩ <;> (rw [hb1.cell (by simp)]; simp)) | go_keep)
    ((go_at_call 75; refine (cB2.out _).mono ?_; rintro e w1 ⟨rfl, hb1⟩))
  go_wp2
  go_ret
  exact ⟨rfl, (below_drewN ((Below.refl _ _).alloc (Nat.le_refl _) _) 1).trans (hb1.mono (by simp))⟩
end Go.Proofs.YtaobmaehbkancaaDoor
