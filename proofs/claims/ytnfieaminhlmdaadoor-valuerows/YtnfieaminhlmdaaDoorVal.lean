/- A value as an argument: how it is read, before the call and behind it. -/
import Derived.Test.YtnfieaminhlmdaaDoorChecked
import Derived.ProofKit
import Derived.OpenShut
import Derived.Lib.SmallJoins
namespace Go.Proofs.YtnfieaminhlmdaaDoor
open Go.ChangeShapes Go.WideShapes Go.ChangeAt Go.RowKit Go.Joins
open Go.ChangeMaps (open_string shut_string)

theorem cells30v : Tryd.prog.cellsOf 30 = 4 := by kernel_rfl
set_option maxRecDepth 100000 in
theorem open_val {H : Type} {enc : TypeId × Value → H} {W : World} {base b0 : Nat} {v : Value} {d : DataW H} {p : List MemPlace} (hv : Value.okWide Tryd.prog W .any base 30 v)
    (h : DataW.Trod enc Tryd.prog W b0 (fun _ => true) true 30 v d p) :
    ∃ (k : Int) (b : Bool) (n : Int) (s : ByteArray), v = .agg #[.int .u8 k, .bool b, .int .i64 n, .string s] ∧ d = .agg [.lit (.int .u8 k), .lit (.bool b), .lit (.int .i64 n), .lit (.string s.data.toList)] ∧ p = [] ∧
      (Lit.int .u8 k).wf = true ∧ (Lit.int .i64 n).wf = true ∧ s.size ≤ maxLen := by
  obtain ⟨v0, v1, v2, v3, y0, y1, y2, y3, m, rfl, rfl, rfl, h0, h1, h2, h3⟩ := open_agg4 Tryd.underlying30 (by kernel_rfl) cells30v hv h
  obtain ⟨k, e0, rfl, wk⟩ := DataW.trod_int Tryd.underlying28 h0
  obtain ⟨b, e1, rfl⟩ := DataW.trod_bool Tryd.underlying4 h1
  obtain ⟨n, e2, rfl, wn⟩ := DataW.trod_int Tryd.underlying2 h2
  obtain ⟨s, e3, rfl, ws⟩ := DataW.trod_string Tryd.underlying9 h3
  simp only [List.cons.injEq, and_true] at e0 e1 e2 e3
  subst e0 e1 e2 e3
  exact ⟨k, b, n, s, rfl, rfl, rfl, wk, wn, ws⟩
set_option maxRecDepth 100000 in
theorem shut_val {H : Type} {enc : TypeId × Value → H} {W : World} {b0 : Nat} {sp : Nat → Bool} {k : Int} {b : Bool} {n : Int} {s : ByteArray} (wk : (Lit.int .u8 k).wf = true) (wn : (Lit.int .i64 n).wf = true) (ws : s.size ≤ maxLen) :
    DataW.Trod enc Tryd.prog W b0 sp true 30 (.agg #[.int .u8 k, .bool b, .int .i64 n, .string s]) (.agg [.lit (.int .u8 k), .lit (.bool b), .lit (.int .i64 n), .lit (.string s.data.toList)]) [] :=
  shut_agg4 (y0 := (.lit (.int .u8 k), [])) (y1 := (.lit (.bool b), [])) (y2 := (.lit (.int .i64 n), [])) (y3 := (.lit (.string s.data.toList), [])) Tryd.underlying30 (by kernel_rfl) cells30v
    ⟨1, by simp [DataW.trod, Tryd.underlying28, wk]⟩ ⟨1, by simp [DataW.trod, Tryd.underlying4]⟩ ⟨1, by simp [DataW.trod, Tryd.underlying2, wn]⟩ ⟨1, by simp [DataW.trod, Tryd.underlying9, ws]⟩
end Go.Proofs.YtnfieaminhlmdaaDoor
