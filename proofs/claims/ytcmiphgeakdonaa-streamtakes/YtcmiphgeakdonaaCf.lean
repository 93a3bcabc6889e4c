/- The reference: rows that are cut: the walk. -/
import Derived.Test.YtcmiphgeakdonaaCe
namespace Go.Proofs.Ytcmiphgeakdonaa
open Go.Shelf Go.RowKit Go.Lib Go.Sort
set_option linter.unusedVariables false
set_option linter.unusedSimpArgs false
attribute [local go_sem ↓] Go.wp_at_zero Go.wp_at_succ
set_option maxRecDepth 100000 in
set_option maxHeartbeats 8000000 in
theorem refCut_any (s : Strm) (v : Value) (rows : List (List Val)) (K : Nat → Prop) (w : World) (hs : okS s) (h : ListIs rRow 1 24 K w v rows) (hK : ∀ b, K b → b < w.heap.size) :
    Calls Try.prog 7 #[.agg #[.int .u64 (s.qb : Int), .int .u64 (s.qn : Int), .int .i64 s.at_, .int .i64 s.fr, .int .i64 s.tq], v] w fun e w' => CutR w s rows e w' := by
  obtain ⟨q, c, rfl, hby, -⟩ := id h
  have hr63 : rows.length ≤ 5864062014806 := by omega
  obtain ⟨V0, hV0, hbv, hsv, f0, f1, f2⟩ := three_boxes w #[.int .u64 (s.qb : Int), .int .u64 (s.qn : Int), .int .i64 s.at_, .int .i64 s.fr, .int .i64 s.tq] #[.int .u64 0, .int .u64 0, .int .i64 0, .int .i64 0, .int .i64 0, .slice none 0 0, .int .u64 0] #[.int .u64 0, .int .u64 0, .int .i64 0, .int .i64 0, .int .i64 0, .slice none 0 0, .int .u64 0] 26 29 29
  obtain ⟨hto, W0, hXO, _, hsO, hkO⟩ := put_row V0 (w.heap.size + 1 + 1) _ 29 f2 [.int .u64 (s.qb : Int), .int .u64 (s.qn : Int), .int .i64 s.at_, .int .i64 s.fr, .int .i64 s.tq, .slice none 0 0, .int .u64 0] rfl Try.underlying29 rfl sz_Out
  have g2 := box_full V0 (w.heap.size + 1 + 1) _ 29 f2 [.int .u64 (s.qb : Int), .int .u64 (s.qn : Int), .int .i64 s.at_, .int .i64 s.fr, .int .i64 s.tq, .slice none 0 0, .int .u64 0] rfl
  rw [hXO] at g2
  have g2 : W0.heap[w.heap.size + 1 + 1]? = some (.cells #[.int .u64 (s.qb : Int), .int .u64 (s.qn : Int), .int .i64 s.at_, .int .i64 s.fr, .int .i64 s.tq, .slice none 0 0, .int .u64 0] 29 (0, 0)) := g2
  have g1 := (hkO.block (w.heap.size + 1) (by show _ ≠ _; omega)).trans f1
  have hb0 : Below w.heap.size w W0 := ⟨hkO.os.trans hbv.os, hkO.tape.trans hbv.tape, hkO.output.trans hbv.output, by have := hbv.size; omega, fun b hb => (hkO.block b (by show b ≠ _; omega)).trans (hbv.block b hb)⟩
  have hs0 : W0.heap.size = w.heap.size + 3 := by omega
  have HTO : Hid (V0.there (w.heap.size + 1 + 1) 0 7) := hto
  have HXO : Hid (V0.setCells (w.heap.size + 1 + 1) 0 (#[.int .u64 (s.qb : Int), .int .u64 (s.qn : Int), .int .i64 s.at_, .int .i64 s.fr, .int .i64 s.tq, .slice none 0 0, .int .u64 0] : Array Value).toList = W0) := hXO
  have HOO : Hid ((#[.int .u64 (s.qb : Int), .int .u64 (s.qn : Int), .int .i64 s.at_, .int .i64 s.fr, .int .i64 s.tq, .slice none 0 0, .int .u64 0] : Array Value).all (·.oneCell') = true) := by show _ = _; simp [Value.oneCell']
  have d0 := cell_of_row (k := 0) (v := .int .u64 (s.qb : Int)) f0 rfl
  have d1 := cell_of_row (k := 1) (v := .int .u64 (s.qn : Int)) f0 rfl
  have d2 := cell_of_row (k := 2) (v := .int .i64 s.at_) f0 rfl
  have d3 := cell_of_row (k := 3) (v := .int .i64 s.fr) f0 rfl
  have d4 := cell_of_row (k := 4) (v := .int .i64 s.tq) f0 rfl
  clear hbv hsv f0 f1 f2 hto hXO hsO hkO
  have HS0 : Hid (W0.heap.size = w.heap.size + 3) := hs0
  have HOS : Hid (okS s) := hs
  by_cases hbig : 4096 < rows.length
  · have z : (4096 : Int) < (rows.length : Int) := by omega
    obtain ⟨hth, X, hX, hld, hsX, hkX⟩ := put_row W0 (w.heap.size + 1) _ 29 g1 [.int .u64 0, .int .u64 0, .int .i64 0, .int .i64 0, .int .i64 0, .slice none 0 0, .int .u64 0] rfl Try.underlying29 rfl sz_Out
    have HTH : Hid (W0.there (w.heap.size + 1) 0 7) := hth
    have HWX : Hid (W0.setCells (w.heap.size + 1) 0 (#[.int .u64 0, .int .u64 0, .int .i64 0, .int .i64 0, .int .i64 0, .slice none 0 0, .int .u64 0] : Array Value).toList = X) := hX
    have HLD : Hid ((loadVar 29 ⟨w.heap.size + 1, 0, none⟩).run Try.prog X = .ok (.agg #[.int .u64 0, .int .u64 0, .int .i64 0, .int .i64 0, .int .i64 0, .slice none 0 0, .int .u64 0]) X) := hld
    have HON : Hid ((#[.int .u64 0, .int .u64 0, .int .i64 0, .int .i64 0, .int .i64 0, .slice none 0 0, .int .u64 0] : Array Value).all (·.oneCell') = true) := by show _ = _; simp [Value.oneCell']
    have HFI : Hid (CutR w s rows (.returned (.tuple #[.agg #[.int .u64 0, .int .u64 0, .int .i64 0, .int .i64 0, .int .i64 0, .slice none 0 0, .int .u64 0], .int .i64 3])) X) := by
      refine ⟨[.int .u64 0, .int .u64 0, .int .i64 0, .int .i64 0, .int .i64 0, .slice none 0 0, .int .u64 0], by rw [if_pos hbig], ?_, ⟨hkX.os.trans hb0.os, hkX.tape.trans hb0.tape, hkX.output.trans hb0.output, by have := hb0.size; omega, fun b hb => (hkX.block b (by show b ≠ _; omega)).trans (hb0.block b hb)⟩⟩
      rw [if_pos hbig]
      exact ⟨_, rfl, ⟨⟨⟨by show (0:Nat) < _; omega, by show (0:Nat) < _; omega⟩, ⟨by show _ ≤ (0:Int); omega, by show (0:Int) ≤ _; omega⟩, ⟨by show _ ≤ (0:Int); omega, by show (0:Int) ≤ _; omega⟩, ⟨by show _ ≤ (0:Int); omega, by show (0:Int) ≤ _; omega⟩⟩, by show (0:Nat) < _; omega⟩, ⟨none, 0, rfl, ⟨by simp, by simp⟩, fun h => by simp at h⟩⟩
    clear hth hX hld hsX hkX hb0 g1 g2 hs0 h hK hby hs hbig
    go_enter Try.func7, Try.ntmps7
    go_wp2_with (first | (refine wpList_store_mid rfl 29 _ _ rfl (w.heap.size + 1 + 1) 0 #[.int .u64 (s.qb : Int), .int .u64 (s.qn : Int), .int .i64 s.at_, .int .i64 s.fr, .int .i64 s.tq, .slice none 0 0, .int .u64 0] rfl rfl HTO.out sz_Out HOO.out ?_; rw [HXO.out]) | (refine wpList_store_mid rfl 29 _ _ rfl (w.heap.size + 1) 0 #[.int .u64 0, .int .u64 0, .int .i64 0, .int .i64 0, .int .i64 0, .slice none 0 0, .int .u64 0] rfl rfl HTH.out sz_Out HON.out ?_; rw [HWX.out]))
    refine bodyPost_ret (v := .tuple #[.agg #[.int .u64 0, .int .u64 0, .int .i64 0, .int .i64 0, .int .i64 0, .slice none 0 0, .int .u64 0], .int .i64 3]) (by simp only [results, Try.results7]; simp [asAddr, Act.put, HLD.out]) rfl ?_
    exact HFI.out
  · have z : ¬ (4096 : Int) < (rows.length : Int) := by omega
    have CC : Hid (Calls Try.prog 25 #[.slice q rows.length c] W0 fun e w' => CpP rRow 1 24 rows W0 e w') := copyRows_any _ rows K W0 (h.mono mRow (fun _ h => h) (kept_of hK hb0)) (fun b hb => Nat.lt_of_lt_of_le (hK b hb) hb0.size)
    have HG : Hid (W0.heap[w.heap.size + 1]? = some (.cells #[.int .u64 0, .int .u64 0, .int .i64 0, .int .i64 0, .int .i64 0, .slice none 0 0, .int .u64 0] 29 (0, 0)) ∧ W0.heap[w.heap.size + 1 + 1]? = some (.cells #[.int .u64 (s.qb : Int), .int .u64 (s.qn : Int), .int .i64 s.at_, .int .i64 s.fr, .int .i64 s.tq, .slice none 0 0, .int .u64 0] 29 (0, 0)) ∧ Below w.heap.size w W0) := ⟨g1, g2, hb0⟩
    clear hb0 g1 g2 hs0 h hK hby hs
    go_enter Try.func7, Try.ntmps7
    go_wp2_with (refine wpList_store_mid rfl 29 _ _ rfl (w.heap.size + 1 + 1) 0 #[.int .u64 (s.qb : Int), .int .u64 (s.qn : Int), .int .i64 s.at_, .int .i64 s.fr, .int .i64 s.tq, .slice none 0 0, .int .u64 0] rfl rfl HTO.out sz_Out HOO.out ?_; rw [HXO.out])
    refine CC.out.mono ?_
    rintro e wR ⟨pR, cR, rfl, hlR, hbR⟩
    have HSR : Hid (W0.heap.size ≤ wR.heap.size) := hbR.size
    have HJ0 : Hid (CutJ s w W0 wR wR none 0 []) := by
      obtain ⟨g1, g2, hb0⟩ := HG.out
      have := HS0.out
      exact ⟨(hbR.block _ (by omega)).trans g2, (hbR.block _ (by omega)).trans g1, ⟨[], World.ownsRow_nil _ _ _ _, fun j hj => by simp at hj⟩, hb0.trans (hbR.mono hb0.size), ⟨rfl, rfl, rfl, Nat.le_refl _, fun _ _ => rfl⟩, Nat.le_refl _⟩
    have HL0 : Hid (ListIs rRow 1 24 (From W0.heap.size wR) wR (.slice pR rows.length cR) rows) := hlR
    clear CC HG hlR hbR hV0 HTO HXO HOO d0 d1 d2 d3 d4
    go_wp2_with fail
    go_loopg [7] rows.length (fun gf s7 wx => ∃ (rest : List (List Val)) (q : Option Addr) (c : Nat) (bs : List (List (List Val))) (p : Option Addr) (cu : Nat), s7 = .slice q rest.length c ∧ rest.length ≤ gf ∧ rest.length ≤ 4096 ∧ bs.length + rest.length / 8 ≤ 512 ∧ Hid (bs ++ chunkP rest = chunkP rows) ∧ Hid (ListIs rRow 1 24 (From W0.heap.size wR) wR (.slice q rest.length c) rest) ∧ Hid (CutJ s w W0 wR wx p cu bs))
    case atStart => exact ⟨rows, pR, cR, [], none, 0, rfl, by omega, by omega, by simp; omega, rfl, HL0, HJ0⟩
    case round =>
      clear HL0 HJ0
      obtain ⟨rest, q, c, bs, p, cu, rfl, hgf, hr4, hbl, HP, HL, HJ⟩ := hrel
      by_cases h8 : 8 < rest.length
      · have z8 : (8 : Int) < (rest.length : Int) := by omega
        obtain ⟨g', rfl⟩ : ∃ g', gk = g' + 1 := ⟨gk - 1, by omega⟩
        have hlt := list_takeR HL.out 8 (by omega)
        obtain ⟨b, o, rfl, _⟩ : ∃ b o, q = some ⟨b, o, none⟩ ∧ True := by
          obtain ⟨_, _, e, _, hp⟩ := HL.out
          obtain ⟨b, o, rfl, _⟩ := hp (by omega)
          cases e
          exact ⟨b, o, rfl, trivial⟩
        have hld := list_dropR HL.out 8 (by omega)
        have hcap : rest.length ≤ c := by obtain ⟨_, _, e, h9, _⟩ := HL.out; cases e; exact h9.2
        have htl : (rest.take 8).length = 8 := by simp; omega
        have hdl : (rest.drop 8).length = rest.length - 8 := by simp
        have HP2 : Hid ((bs ++ [rest.take 8]) ++ chunkP (rest.drop 8) = chunkP rows) := by
          show _ = _
          rw [← HP.out, chunkP_more h8]
          simp
        have HLD : Hid (ListIs rRow 1 24 (From W0.heap.size wR) wR (.slice (some ⟨b, o + 8, none⟩) (rest.drop 8).length (c - 8)) (rest.drop 8)) := by rw [hdl]; exact hld
        have HDL : Hid ((rest.drop 8).length = rest.length - 8) := hdl
        have zc8 : (8 : Int) ≤ (c : Int) := by omega
        have zc9 : ¬ c = 8 := by omega
        obtain ⟨p', c', X2, hrun, hcb, hca, hc7, hf7, X3, hX3, hfi⟩ := (HJ.out.later (W' := wr.drew) rfl rfl rfl rfl).step HS0.out HSR.out htl hlt (by omega)
        have HFI := hid hfi
        have hcw : wr.cell? ⟨w.heap.size + 1 + 1, 5, none⟩ = some (.slice p bs.length cu) := hcb
        have hca2 : (wr.alloc (.cells #[.slice (some ⟨b, o, none⟩) 8 c] 30)).cell? ⟨w.heap.size + 1 + 1, 5, none⟩ = some (.slice p bs.length cu) := hca
        have hrun2 : (Builtin.append_ #[27, 27] 27 #[.slice p bs.length cu, .slice (some ⟨wr.heap.size, 0, none⟩) 1 1]).run Try.prog (wr.alloc (.cells #[.slice (some ⟨b, o, none⟩) 8 c] 30)).drew = .ok (.slice p' (bs.length + 1) c') X2 := hrun
        clear hrun hcb hca hfi hlt hld htl hdl HJ HP HL
        go_wp2_with fail
        go_region_law (refine step_appR (wr.alloc (.cells #[.slice (some ⟨b, o, none⟩) 8 c] 30)).drew 27 rfl _ _ rfl (.slice p bs.length cu) (.slice (some ⟨wr.heap.size, 0, none⟩) 1 1) (.slice p' (bs.length + 1) c') X2 (by simp [Act.eval, Act.put]) (by simp [Act.eval, Act.put]) hrun2 ?_)
        all_goals go_wp2_with fail
        all_goals go_roundg g'
        all_goals try (case measure => omega)
        all_goals (case rel => exact ⟨rest.drop 8, some ⟨b, o + 8, none⟩, c - 8, bs ++ [rest.take 8], p', c', by rw [HDL.out], by rw [HDL.out]; omega, by rw [HDL.out]; omega, by rw [HDL.out]; simp; omega, HP2, HLD, HFI⟩)
      · have z8 : ¬ (8 : Int) < (rest.length : Int) := by omega
        obtain ⟨p', c', X2, hrun, hcb, hca, hc7, hf7, X3, hX3, hfi⟩ := HJ.out.step HS0.out HSR.out rfl HL.out (by omega)
        have HP2 : Hid (bs ++ [rest] = chunkP rows) := by show _ = _; rw [← HP.out, chunkP_last h8]
        have hsl : (bs ++ [rest]).length = bs.length + 1 := by simp
        have hg3 := hfi.box
        rw [hsl] at hg3
        obtain ⟨hth, X, hX, hld, hsX, hkX⟩ := put_row X3 (w.heap.size + 1) _ 29 hfi.res [.int .u64 (s.qb : Int), .int .u64 (s.qn : Int), .int .i64 s.at_, .int .i64 s.fr, .int .i64 s.tq, .slice p' (bs.length + 1) c', .int .u64 0] rfl Try.underlying29 rfl sz_Out
        have HTH : Hid (X3.there (w.heap.size + 1) 0 7) := hth
        have HWX : Hid (X3.setCells (w.heap.size + 1) 0 (#[.int .u64 (s.qb : Int), .int .u64 (s.qn : Int), .int .i64 s.at_, .int .i64 s.fr, .int .i64 s.tq, .slice p' (bs.length + 1) c', .int .u64 0] : Array Value).toList = X) := hX
        have HLD : Hid ((loadVar 29 ⟨w.heap.size + 1, 0, none⟩).run Try.prog X = .ok (.agg #[.int .u64 (s.qb : Int), .int .u64 (s.qn : Int), .int .i64 s.at_, .int .i64 s.fr, .int .i64 s.tq, .slice p' (bs.length + 1) c', .int .u64 0]) X) := hld
        have HON : Hid ((#[.int .u64 (s.qb : Int), .int .u64 (s.qn : Int), .int .i64 s.at_, .int .i64 s.fr, .int .i64 s.tq, .slice p' (bs.length + 1) c', .int .u64 0] : Array Value).all (·.oneCell') = true) := by show _ = _; simp [Value.oneCell']
        have HRV : Hid (X3.rangeAt (w.heap.size + 1 + 1) 0 [.int .u64 (s.qb : Int), .int .u64 (s.qn : Int), .int .i64 s.at_, .int .i64 s.fr, .int .i64 s.tq, .slice p' (bs.length + 1) c', .int .u64 0]) := fun j u hu => by rw [Nat.zero_add]; exact cell_of_row hg3 (by simpa using hu)
        have HFI : Hid (CutR w s rows (.returned (.tuple #[.agg #[.int .u64 (s.qb : Int), .int .u64 (s.qn : Int), .int .i64 s.at_, .int .i64 s.fr, .int .i64 s.tq, .slice p' (bs.length + 1) c', .int .u64 0], .int .i64 0])) X) := by
          have hbf := hfi.bel
          have := HS0.out
          have := HSR.out
          refine ⟨[.int .u64 (s.qb : Int), .int .u64 (s.qn : Int), .int .i64 s.at_, .int .i64 s.fr, .int .i64 s.tq, .slice p' (bs.length + 1) c', .int .u64 0], by rw [if_neg hbig], ?_, ⟨hkX.os.trans hbf.os, hkX.tape.trans hbf.tape, hkX.output.trans hbf.output, by have := hbf.size; omega, fun b hb => (hkX.block b (by show b ≠ _; omega)).trans (hbf.block b hb)⟩⟩
          rw [if_neg hbig]
          refine ⟨_, rfl, ⟨HOS.out, by show (0:Nat) < _; omega⟩, ?_⟩
          show ListIs rBch 1 24 _ _ _ (chunkP rows)
          rw [← HP2.out]
          obtain ⟨pf, cf, ef, hlf⟩ := hfi.own.listU mBch (bytes := 24) (by rw [hsl]; omega)
          rw [hsl] at ef
          cases ef
          rw [hsl] at hlf
          refine hlf.mono mBch (fun b hb => ?_) ⟨hkX.os, hkX.tape, hkX.output, by omega, fun b hb => hkX.block b ?_⟩
          · have hsz := hfi.size
            rcases hb with hb | hb
            · exact ⟨by have := hb.1; omega, by have := hb.2; omega⟩
            · exact ⟨by omega, by omega⟩
          · show b ≠ _
            rcases hb with hb | hb
            · have := hb.1; omega
            · omega
        clear hfi hth hX hld hsX hkX HJ HP HL HP2 hg3 hsl hbig
        go_wp2_with (first | (at_builtin; refine Lib.wpList_append_run _ rfl _ _ _ _ rfl (.slice p bs.length cu) (.slice (some ⟨wr.heap.size, 0, none⟩) 1 1) rfl rfl _ _ hrun ?_) | (refine wpList_store_mid rfl 29 _ _ rfl (w.heap.size + 1) 0 #[.int .u64 (s.qb : Int), .int .u64 (s.qn : Int), .int .i64 s.at_, .int .i64 s.fr, .int .i64 s.tq, .slice p' (bs.length + 1) c', .int .u64 0] rfl rfl HTH.out sz_Out HON.out ?_; rw [HWX.out]) | (refine wpList_load_mid rfl 29 _ rfl (w.heap.size + 1 + 1) 0 rfl _ _ HRV.out Try.underlying29 rfl sz_Out ?_))
        refine bodyPost_ret (v := .tuple #[.agg #[.int .u64 (s.qb : Int), .int .u64 (s.qn : Int), .int .i64 s.at_, .int .i64 s.fr, .int .i64 s.tq, .slice p' (bs.length + 1) c', .int .u64 0], .int .i64 0]) (by simp only [results, Try.results7]; simp [asAddr, Act.put, HLD.out]) rfl ?_
        exact HFI.out
end Go.Proofs.Ytcmiphgeakdonaa
