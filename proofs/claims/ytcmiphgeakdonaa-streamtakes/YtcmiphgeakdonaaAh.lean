/- Messages of a stream in memory; what Ack answers. -/
import Derived.Test.YtcmiphgeakdonaaAg
namespace Go.Proofs.Ytcmiphgeakdonaa
open Go.Shelf Go.RowKit Go.Lib
set_option linter.unusedVariables false
set_option linter.unusedSimpArgs false
attribute [local go_sem ↓] Go.wp_at_zero Go.wp_at_succ
/-- The cells of a message of kind k of the stream m, with its number, whether it is the last, its rows. -/
def mgC (k : Int) (m : Strm) (n : Nat) (l : Bool) (r : Value) : List Value := [.int .u8 k, .int .u64 0, .int .u64 (m.qb : Int), .int .u64 (m.qn : Int), .int .i64 m.at_, .int .i64 m.fr, .int .i64 m.tq, .string { data := #[] }, .string { data := #[] }, .int .i64 0, .int .i64 0, .int .i64 0, .slice none 0 0, .slice none 0 0, .slice none 0 0, .bool false, .slice none 0 0, .slice none 0 0, .slice none 0 0, .int .i64 0, .int .i64 0, .int .u8 0, .string { data := #[] }, .int .u64 0, .int .u64 0, .int .i64 0, .slice none 0 0, .int .u8 0, .string { data := #[] }, .int .u64 0, .int .u64 0, .int .i64 0, .slice none 0 0, .bool false, .int .i64 0, .slice none 0 0, .slice none 0 0, .int .u64 (n : Int), .bool l, r, .string { data := #[] }, .int .u64 0, .int .u64 0, .int .i64 0, .slice none 0 0, .slice none 0 0, .slice none 0 0]
theorem mgC_len (k : Int) (m : Strm) (n : Nat) (l : Bool) (r : Value) : (mgC k m n l r).length = 47 := rfl
theorem mgC_one (k : Int) (m : Strm) (n : Nat) (l : Bool) (q : Option Addr) (i c : Nat) : ((mgC k m n l (.slice q i c)).toArray).all (·.oneCell') = true := by
  unfold mgC
  simp [Value.oneCell']
theorem sz_Msg : (Try.prog.info? 62).map (·.size) = some 47 := by kernel_rfl
def zM : Array Value := #[.int .u8 0, .int .u64 0, .int .u64 0, .int .u64 0, .int .i64 0, .int .i64 0, .int .i64 0, .string { data := #[] }, .string { data := #[] }, .int .i64 0, .int .i64 0, .int .i64 0, .slice none 0 0, .slice none 0 0, .slice none 0 0, .bool false, .slice none 0 0, .slice none 0 0, .slice none 0 0, .int .i64 0, .int .i64 0, .int .u8 0, .string { data := #[] }, .int .u64 0, .int .u64 0, .int .i64 0, .slice none 0 0, .int .u8 0, .string { data := #[] }, .int .u64 0, .int .u64 0, .int .i64 0, .slice none 0 0, .bool false, .int .i64 0, .slice none 0 0, .slice none 0 0, .int .u64 0, .bool false, .slice none 0 0, .string { data := #[] }, .int .u64 0, .int .u64 0, .int .i64 0, .slice none 0 0, .slice none 0 0, .slice none 0 0]
set_option maxRecDepth 100000 in
theorem info65 : ∃ i0, Try.prog.info? 62 = some i0 ∧ i0.zero = some (.agg zM) ∧ i0.size = 47 ∧ i0.bytes = 640 := by
  have h1 : (Try.prog.info? 62).bind (·.zero) = some (.agg zM) := by kernel_rfl
  have h2 : (Try.prog.info? 62).map (·.size) = some 47 := by kernel_rfl
  have h3 : (Try.prog.info? 62).map (·.bytes) = some 640 := by kernel_rfl
  generalize Try.prog.info? 62 = i at *
  cases i with
  | none => cases h1
  | some i => exact ⟨i, rfl, h1, Option.some.inj h2, Option.some.inj h3⟩
set_option maxRecDepth 100000 in
theorem ack_built (m : Strm) (n : Nat) : Try.prog.built 62 [(0, .int .u8 5), (2, .agg #[.int .u64 (m.qb : Int), .int .u64 (m.qn : Int), .int .i64 m.at_, .int .i64 m.fr, .int .i64 m.tq]), (7, .int .u64 (n : Int))] = some (mgC 5 m n false (.slice none 0 0)).toArray := by kernel_rfl
set_option maxRecDepth 100000 in
theorem batch_built (m : Strm) (n : Nat) (l : Bool) (r : Value) (q : Option Addr) (i c : Nat) : Try.prog.built 62 [(0, .int .u8 4), (2, .agg #[.int .u64 (m.qb : Int), .int .u64 (m.qn : Int), .int .i64 m.at_, .int .i64 m.fr, .int .i64 m.tq]), (7, .int .u64 (n : Int)), (8, .bool l), (9, .slice q i c)] = some (mgC 4 m n l (.slice q i c)).toArray := by kernel_rfl
theorem wpList_build3 {P : Program} {ops : Array Oper} {rest : List Oper} {op : Oper} {a : Act} {w : World} {Q : Exit → Act → World → Prop} (hw : Region.wanted op (yielded ops a.tmps) = true) (t : TypeId) (i1 i2 i3 : Nat) (x y z : Operand) (ho : op.op = .build t #[(i1, x), (i2, y), (i3, z)]) (v1 v2 v3 : Value) (hx : a.eval x = v1) (hy : a.eval y = v2) (hz : a.eval z = v3) (v' : Value) (hr : (Instr.build t #[(i1, v1), (i2, v2), (i3, v3)]).run P w = .ok v' w) (h : wpList P ops Q rest (a.put op.dst v') w) : wpList P ops Q (op :: rest) a w :=
  wpList_step fun K hK => by
    rw [if_pos hw]
    unfold Oper.wp execOp
    simp only [ho, List.map_toArray, List.map_cons, List.map_nil, hx, hy, hz, Sem.run_bind, hr, Result.andThen_ok]
    exact hK _ _ h
theorem in_cells {K : Nat → Prop} {w : World} {cs : List Value} {x : In_} (h : rIn K w cs x) : ∃ v u, cs = [.int .u64 (x.m.qb : Int), .int .u64 (x.m.qn : Int), .int .i64 x.m.at_, .int .i64 x.m.fr, .int .i64 x.m.tq, .int .u64 (x.n : Int), v, u, .bool x.d] ∧ okS x.m := by
  obtain ⟨v, u, rfl, h1, _⟩ := h
  exact ⟨v, u, rfl, h1.1⟩
end Go.Proofs.Ytcmiphgeakdonaa
