/- What Ack answers. -/
import Derived.Test.YtcmiphgeakdonaaAh
namespace Go.Proofs.Ytcmiphgeakdonaa
open Go.Shelf Go.RowKit Go.Lib
set_option linter.unusedVariables false
set_option linter.unusedSimpArgs false
attribute [local go_sem ↓] Go.wp_at_zero Go.wp_at_succ
theorem sz_Strm : (Try.prog.info? 26).map (·.size) = some 5 := by kernel_rfl
theorem two_boxes2 (w : World) (a b : Array Value) (t1 t2 : TypeId) : ∃ W0, (w.alloc (.cells a t1)).alloc (.cells b t2) = W0 ∧ Below w.heap.size w W0 ∧ W0.heap.size = w.heap.size + 2 ∧ W0.heap[w.heap.size]? = some (.cells a t1 (0, 0)) ∧ W0.heap[w.heap.size + 1]? = some (.cells b t2 (0, 0)) := by
  refine ⟨_, rfl, ((Below.refl _ _).alloc (Nat.le_refl _) _).alloc (by simp) _, by simp, ?_, ?_⟩
  · rw [hao _ _ _ (by simp)]; exact heap_alloc_new w _
  · have := heap_alloc_new (w.alloc (.cells a t1)) (.cells b t2)
    simpa using this
theorem zeroM (w : World) : (zeroValue 62).run Try.prog w = .ok (.agg zM) w := Try.zeroValue62 w
theorem wpList_alloc_z {P : Program} {ops : Array Oper} {rest : List Oper} {op : Oper} {a : Act} {w : World} {Q : Exit → Act → World → Prop} (hw : Region.wanted op (yielded ops a.tmps) = true) (t : TypeId) (ho : op.op = .alloc t) (z : Array Value) (hz : (zeroValue t).run P w = .ok (.agg z) w) (h : wpList P ops Q rest (a.put op.dst (.pointer (some ⟨w.heap.size, 0, none⟩))) (w.alloc (.cells z t))) : wpList P ops Q (op :: rest) a w :=
  wpList_step fun K hK => by
    rw [if_pos hw]
    unfold Oper.wp execOp
    simp only [ho, Instr.alloc, Sem.run_bind, hz, Result.andThen_ok, newVar, newRow, Value.cells]
    exact hK _ _ h
set_option maxRecDepth 100000 in
set_option maxHeartbeats 1000000 in
theorem ack_any (cs : List Value) (x : In_) (K : Nat → Prop) (w : World) (h : rIn K w cs x) :
    Calls Try.prog 23 #[.agg cs.toArray] w fun e w' => e = .returned (.agg (mgC 5 x.m x.n false (.slice none 0 0)).toArray) ∧ Below w.heap.size w w' := by
  obtain ⟨v, u, rfl, hok⟩ := in_cells h
  clear h hok
  obtain ⟨W0, hW0, hb0, hs0, g0, g1⟩ := two_boxes2 w #[.int .u64 (x.m.qb : Int), .int .u64 (x.m.qn : Int), .int .i64 x.m.at_, .int .i64 x.m.fr, .int .i64 x.m.tq, .int .u64 (x.n : Int), v, u, .bool x.d] zM 68 62
  obtain ⟨cl, hcl⟩ : ∃ cl, mgC 5 x.m x.n false (.slice none 0 0) = cl := ⟨_, rfl⟩
  have hlen : cl.length = 47 := by rw [← hcl]; rfl
  have HON : Hid (cl.toArray.all (·.oneCell') = true) := by show _ = _; rw [← hcl]; exact mgC_one 5 x.m x.n false none 0 0
  have HBD : Hid ((Instr.build 62 #[(0, .int .u8 5), (2, .agg #[.int .u64 (x.m.qb : Int), .int .u64 (x.m.qn : Int), .int .i64 x.m.at_, .int .i64 x.m.fr, .int .i64 x.m.tq]), (7, .int .u64 (x.n : Int))]).run Try.prog W0 = .ok (.agg cl.toArray) W0) := by
    show _ = _
    rw [← hcl]
    exact run_build W0 62 _ _ (ack_built x.m x.n)
  obtain ⟨hth, X, hX, hld, hsX, hkX⟩ := put_row W0 (w.heap.size + 1) _ 62 g1 cl (by rw [hlen]; rfl) Try.underlying62 rfl (by rw [hlen]; exact sz_Msg)
  have HSZ : Hid ((Try.prog.info? 62).map (·.size) = some cl.toArray.size) := by show _ = _; rw [List.size_toArray, hlen]; exact sz_Msg
  have HTZ : Hid (W0.there (w.heap.size + 1) 0 cl.toArray.size) := hth
  have HWX : Hid (W0.setCells (w.heap.size + 1) 0 cl = X) := hX
  have HLD : Hid ((loadVar 62 ⟨w.heap.size + 1, 0, none⟩).run Try.prog X = .ok (.agg cl.toArray) X) := hld
  have HFX : Hid (Below w.heap.size w X) := ⟨hkX.os.trans hb0.os, hkX.tape.trans hb0.tape, hkX.output.trans hb0.output, by have := hb0.size; omega, fun b hb => (hkX.block b (by show b ≠ _; omega)).trans (hb0.block b hb)⟩
  have a5 := cell_of_row (k := 5) (v := .int .u64 (x.n : Int)) g0 rfl
  have HR : Hid (W0.rangeAt w.heap.size 0 [.int .u64 (x.m.qb : Int), .int .u64 (x.m.qn : Int), .int .i64 x.m.at_, .int .i64 x.m.fr, .int .i64 x.m.tq]) := fun j u hu => by
    rw [Nat.zero_add]
    refine cell_of_row g0 ?_
    match j, hu with
    | 0, hu => exact hu
    | 1, hu => exact hu
    | 2, hu => exact hu
    | 3, hu => exact hu
    | 4, hu => exact hu
  have HCL : Hid (mgC 5 x.m x.n false (.slice none 0 0) = cl) := hcl
  have HW0 : Hid ((w.alloc (.cells #[.int .u64 (x.m.qb : Int), .int .u64 (x.m.qn : Int), .int .i64 x.m.at_, .int .i64 x.m.fr, .int .i64 x.m.tq, .int .u64 (x.n : Int), v, u, .bool x.d] 68)).alloc (.cells zM 62) = W0) := hW0
  clear hcl hlen hth hX hld hsX hkX g0 g1 hb0 hW0 hs0
  go_enter Try.func23, Try.ntmps23
  apply wp_seq_k
  intro K1 hK1
  refine wp_region_lit ?_
  iterate 3 go_step
  refine wpList_alloc_z rfl 62 rfl zM (zeroM _) ?_
  rw [HW0.out]
  iterate 9 go_step
  refine wpList_load_mid rfl 26 _ rfl w.heap.size 0 rfl _ _ HR.out Try.underlying26 rfl sz_Strm ?_
  iterate 6 go_step
  refine wpList_build3 rfl 62 0 2 7 _ _ _ rfl _ _ _ rfl rfl rfl _ HBD.out ?_
  refine wpList_store_mid rfl 62 _ _ rfl (w.heap.size + 1) 0 cl.toArray rfl rfl HTZ.out HSZ.out HON.out ?_
  rw [show W0.setCells (w.heap.size + 1) 0 cl.toArray.toList = X from HWX.out]
  go_wp2_with fail
  refine bodyPost_ret (v := .agg cl.toArray) (by simp only [results, Try.results23]; simp [asAddr, Act.put, HLD.out]) rfl ?_
  rw [HCL.out]
  exact ⟨rfl, HFX.out⟩
end Go.Proofs.Ytcmiphgeakdonaa
