/- The reference: what Check, Size and find answer. -/
import Derived.Test.YtedjfbkpebmggaaDx
namespace Go.Proofs.Ytedjfbkpebmggaa
open Go.Shelf Go.RowKit Go.Lib Go.Sort
set_option linter.unusedVariables false
set_option linter.unusedSimpArgs false
attribute [local go_sem ↓] Go.wp_at_zero Go.wp_at_succ
set_option maxRecDepth 100000 in
set_option maxHeartbeats 2000000 in
theorem refCheck_any (v : Value) (dn : Bool) (fu : Int) (fs : List DF) (w : World) (h : FsL w v fs) :
    Calls Try.prog 19 #[.agg #[v, .bool dn, .int .i64 fu]] w fun e w' => e = .returned (.int .i64 (chE fs)) ∧ Below w.heap.size w w' := by
  obtain ⟨W0, hW0, hb0, hs0, hx⟩ := box24 w v dn fu
  obtain ⟨x0, x1, x2⟩ := hx W0 (Below.refl _ _)
  have HB0 : Hid (Below w.heap.size w W0) := hb0
  obtain ⟨p, c, rfl, hl, hs, hp⟩ := h.below hb0
  have HP : Hid (0 < fs.length → ∃ b o, p = some ⟨b, o, none⟩ ∧ b < W0.heap.size ∧ FsIs W0 b o fs) := hp
  have HS : Hid (SmallF fs) := hs
  clear hp hs h hb0 hs0 hx
  go_enter Try.func19, Try.ntmps19
  go_wp2_with fail
  go_loopg [3, 4, 10] fs.length (fun gf s3 s4 s10 wx => ∃ (i n : Nat) (last : ByteArray), s3 = .string last ∧ s4 = .int .i64 n ∧ s10 = .int .i64 i ∧ i ≤ fs.length ∧ fs.length ≤ i + gf ∧ n ≤ 1048576 ∧ Hid (areF last (1048576 - n) (fs.drop i) = okF fs) ∧ Hid (Below W0.heap.size W0 wx))
  case atStart => exact ⟨0, 0, ⟨#[]⟩, rfl, rfl, rfl, by omega, by omega, by omega, (show _ = _ from rfl), Below.refl _ _⟩
  case round =>
    obtain ⟨i, n, last, rfl, rfl, rfl, hi1, hgf, hrm, HE, HB⟩ := hrel
    by_cases hi : i < fs.length
    · obtain ⟨g', rfl⟩ : ∃ g', gk = g' + 1 := ⟨gk - 1, by omega⟩
      obtain ⟨b, o, rfl, hlt, hc⟩ := HP.out (by omega)
      obtain ⟨c0, c1, c2⟩ := (hc.below hlt HB.out) i hi
      obtain ⟨s1, s2⟩ := HS.out _ (List.getElem_mem hi)
      have hst := areF_step last (1048576 - n) fs i hi
      rw [HE.out] at hst
      obtain ⟨⟨nm, dt, y⟩, hf⟩ : ∃ f, fs[i] = f := ⟨_, rfl⟩
      rw [hf] at c0 c1 c2 s1 s2 hst
      simp only at c0 c1 c2 s1 s2
      have z0 : (0 : Int) ≤ (i : Int) := by omega
      have z1 : (i : Int) < (fs.length : Int) := by omega
      have q0 : IntKind.i64.wrap (1048576 - (n : Int)) = 1048576 - (n : Int) := by rw [IntKind.wrap_i64]; omega
      have HB2 : Hid (Below W0.heap.size W0 (wr.alloc (.cells #[.string nm, .string dt, .int .i64 y] 41))) := HB.out.alloc HB.out.size _
      have HBW : Hid (Below w.heap.size w (wr.alloc (.cells #[.string nm, .string dt, .int .i64 y] 41))) := HB0.out.trans (HB2.out.mono HB0.out.size)
      cases hbad : badF last (1048576 - n) ⟨nm, dt, y⟩ with
      | true =>
        rw [hbad] at hst
        have HF : Hid (chE fs = 6) := by unfold chE; rw [hst]; rfl
        unfold badF ltB eqB at hbad
        simp only at hbad
        clear hst hf hc HE
        by_cases t0 : (Op.bytesLess nm.toList last.toList || nm.toList == last.toList) = true
        · go_wp2_with fail
          go_ret
          exact ⟨by rw [HF.out]; rfl, HBW.out⟩
        · have t0 : (Op.bytesLess nm.toList last.toList || nm.toList == last.toList) = false := by simpa using t0
          by_cases t1 : y < 0
          · go_wp2_with fail
            go_ret
            exact ⟨by rw [HF.out]; rfl, HBW.out⟩
          · by_cases t2 : (dt.size : Int) < y
            · go_wp2_with fail
              go_ret
              exact ⟨by rw [HF.out]; rfl, HBW.out⟩
            · have t3 : 1048576 - (n : Int) < (dt.size : Int) := by
                rw [t0] at hbad
                simp only [Bool.false_or, Bool.or_eq_true, decide_eq_true_eq] at hbad
                omega
              clear hbad
              go_wp2_with fail
              go_ret
              exact ⟨by rw [HF.out]; rfl, HBW.out⟩
      | false =>
        rw [hbad] at hst
        unfold badF ltB eqB at hbad
        simp only [Bool.or_eq_false_iff, decide_eq_false_iff_not] at hbad
        rw [← Bool.or_eq_false_iff] at hbad
        obtain ⟨⟨⟨t0, t1⟩, t2⟩, t3⟩ := hbad
        have HE2 : Hid (areF nm (1048576 - (n + dt.size)) (fs.drop (i + 1)) = okF fs) := by
          show _ = _
          rw [hst, show 1048576 - (n + dt.size) = 1048576 - n - dt.size by omega]; simp
        have t3' : ¬ 1048576 - (n : Int) < (dt.size : Int) := by omega
        have q1 : IntKind.i64.wrap ((n : Int) + (dt.size : Int)) = (n : Int) + (dt.size : Int) := by rw [IntKind.wrap_i64]; omega
        have hn2 : n + dt.size ≤ 1048576 := by omega
        clear hst hf hc HE t3
        go_wp2_with fail
        go_roundg g'
        case measure => omega
        case rel => exact ⟨i + 1, n + dt.size, nm, rfl, by go_num, by go_num, by omega, by omega, by omega, HE2, HB2⟩
    · have z1 : ¬ (i : Int) < (fs.length : Int) := by omega
      have HF : Hid (chE fs = 0) := by
        show _ = _
        unfold chE
        rw [← HE.out, List.drop_eq_nil_of_le (by omega)]; rfl
      have HBW : Hid (Below w.heap.size w wr) := HB0.out.trans (HB.out.mono HB0.out.size)
      clear HE
      go_wp2_with fail
      go_ret
      exact ⟨by rw [HF.out]; rfl, HBW.out⟩
set_option maxRecDepth 100000 in
set_option maxHeartbeats 2000000 in
theorem refSize_any (v : Value) (dn : Bool) (fu : Int) (fs : List DF) (w : World) (h : FsL w v fs) (hz : szs fs ≤ 1048576) :
    Calls Try.prog 35 #[.agg #[v, .bool dn, .int .i64 fu]] w fun e w' => e = .returned (.int .i64 (szs fs)) ∧ Below w.heap.size w w' := by
  obtain ⟨W0, hW0, hb0, hs0, hx⟩ := box24 w v dn fu
  obtain ⟨x0, x1, x2⟩ := hx W0 (Below.refl _ _)
  have HB0 : Hid (Below w.heap.size w W0) := hb0
  obtain ⟨p, c, rfl, hl, hs, hp⟩ := h.below hb0
  have HP : Hid (0 < fs.length → ∃ b o, p = some ⟨b, o, none⟩ ∧ b < W0.heap.size ∧ FsIs W0 b o fs) := hp
  clear hp hs h hb0 hs0 hx
  go_enter Try.func35, Try.ntmps35
  go_wp2_with fail
  go_loopg [3, 9] fs.length (fun gf s3 s9 wx => ∃ (i n : Nat), s3 = .int .i64 n ∧ s9 = .int .i64 i ∧ i ≤ fs.length ∧ fs.length ≤ i + gf ∧ Hid (n = szs (fs.take i)) ∧ Hid (Below W0.heap.size W0 wx))
  case atStart => exact ⟨0, 0, rfl, rfl, by omega, by omega, (show _ = _ from rfl), Below.refl _ _⟩
  case round =>
    obtain ⟨i, n, rfl, rfl, hi1, hgf, HN, HB⟩ := hrel
    by_cases hi : i < fs.length
    · obtain ⟨g', rfl⟩ : ∃ g', gk = g' + 1 := ⟨gk - 1, by omega⟩
      obtain ⟨b, o, rfl, hlt, hc⟩ := HP.out (by omega)
      obtain ⟨c0, c1, c2⟩ := (hc.below hlt HB.out) i hi
      have hst := szs_take fs i hi
      have hle := szs_take_le fs (i + 1)
      obtain ⟨⟨nm, dt, y⟩, hf⟩ : ∃ f, fs[i] = f := ⟨_, rfl⟩
      rw [hf] at c0 c1 c2 hst
      simp only at c0 c1 c2 hst
      rw [← HN.out] at hst
      have z0 : (0 : Int) ≤ (i : Int) := by omega
      have z1 : (i : Int) < (fs.length : Int) := by omega
      have HB2 : Hid (Below W0.heap.size W0 (wr.alloc (.cells #[.string nm, .string dt, .int .i64 y] 41))) := HB.out.alloc HB.out.size _
      have q1 : IntKind.i64.wrap ((n : Int) + (dt.size : Int)) = (n : Int) + (dt.size : Int) := by rw [IntKind.wrap_i64]; omega
      have HN2 : Hid (n + dt.size = szs (fs.take (i + 1))) := hst.symm
      clear hst hle hf hc HN
      go_wp2_with fail
      go_roundg g'
      case measure => omega
      case rel => exact ⟨i + 1, n + dt.size, by go_num, by go_num, by omega, by omega, HN2, HB2⟩
    · have z1 : ¬ (i : Int) < (fs.length : Int) := by omega
      have HF : Hid (n = szs fs) := by
        show _ = _
        rw [HN.out, List.take_of_length_le (by omega)]
      have HBW : Hid (Below w.heap.size w wr) := HB0.out.trans (HB.out.mono HB0.out.size)
      clear HN
      go_wp2_with fail
      go_ret
      exact ⟨by rw [HF.out]; rfl, HBW.out⟩
/-- Where a file is; -1: nowhere. -/
def idx (nm : ByteArray) (fs : List DF) (k : Int) : Prop := (has nm fs = false ∧ k = -1) ∨ ∃ j : Nat, k = (j : Int) ∧ ∃ h : j < fs.length, fs[j].n = nm ∧ has nm fs = true ∧ fnd nm fs = fs[j]
set_option maxRecDepth 100000 in
set_option maxHeartbeats 2000000 in
theorem refFind_any (v : Value) (dn : Bool) (fu : Int) (nm : ByteArray) (fs : List DF) (w : World) (h : FsL w v fs) :
    Calls Try.prog 26 #[.agg #[v, .bool dn, .int .i64 fu], .string nm] w fun e w' => ∃ k : Int, e = .returned (.int .i64 k) ∧ idx nm fs k ∧ Below w.heap.size w w' := by
  obtain ⟨W0, hW0, hb0, hs0, hx⟩ := box24 w v dn fu
  obtain ⟨x0, x1, x2⟩ := hx W0 (Below.refl _ _)
  have HB0 : Hid (Below w.heap.size w W0) := hb0
  obtain ⟨p, c, rfl, hl, hs, hp⟩ := h.below hb0
  have HP : Hid (0 < fs.length → ∃ b o, p = some ⟨b, o, none⟩ ∧ b < W0.heap.size ∧ FsIs W0 b o fs) := hp
  clear hp hs h hb0 hs0 hx
  go_enter Try.func26, Try.ntmps26
  go_wp2_with fail
  go_loopg [10] fs.length (fun gf s10 wx => ∃ (i : Nat), s10 = .int .i64 i ∧ i ≤ fs.length ∧ fs.length ≤ i + gf ∧ Hid (∀ f ∈ fs.take i, eqB f.n nm = false) ∧ Hid (Below W0.heap.size W0 wx))
  case atStart => exact ⟨0, rfl, by omega, by omega, (show ∀ f ∈ fs.take 0, eqB f.n nm = false from fun f hf => by simp at hf), Below.refl _ _⟩
  case round =>
    obtain ⟨i, rfl, hi1, hgf, HN, HB⟩ := hrel
    by_cases hi : i < fs.length
    · obtain ⟨g', rfl⟩ : ∃ g', gk = g' + 1 := ⟨gk - 1, by omega⟩
      obtain ⟨b, o, rfl, hlt, hc⟩ := HP.out (by omega)
      obtain ⟨c0, c1, c2⟩ := (hc.below hlt HB.out) i hi
      obtain ⟨⟨n, dt, y⟩, hf⟩ : ∃ f, fs[i] = f := ⟨_, rfl⟩
      have HFI : Hid (∀ h : i < fs.length, fs[i] = ⟨n, dt, y⟩) := fun _ => hf
      rw [hf] at c0 c1 c2
      simp only at c0 c1 c2
      have z0 : (0 : Int) ≤ (i : Int) := by omega
      have z1 : (i : Int) < (fs.length : Int) := by omega
      have HB2 : Hid (Below W0.heap.size W0 (wr.alloc (.cells #[.string n, .string dt, .int .i64 y] 41))) := HB.out.alloc HB.out.size _
      have HBW : Hid (Below w.heap.size w (wr.alloc (.cells #[.string n, .string dt, .int .i64 y] 41))) := HB0.out.trans (HB2.out.mono HB0.out.size)
      cases ha : (n.toList == nm.toList)
      · have HN2 : Hid (∀ f ∈ fs.take (i + 1), eqB f.n nm = false) := by
          intro f hf'
          rw [List.take_succ_eq_append_getElem hi, List.mem_append] at hf'
          rcases hf' with h | h
          · exact HN.out f h
          · simp only [List.mem_singleton] at h
            rw [h, HFI.out hi]; exact ha
        clear hf hc HN
        go_wp2_with fail
        go_roundg g'
        case measure => omega
        case rel => exact ⟨i + 1, by go_num, by omega, by omega, HN2, HB2⟩
      · have HI : Hid (idx nm fs (i : Int)) := by
          have hn : fs[i].n = nm := by rw [hf]; exact eqB_iff.1 ha
          refine .inr ⟨i, rfl, hi, hn, List.any_eq_true.2 ⟨_, List.getElem_mem hi, eqB_iff.2 hn⟩, ?_⟩
          unfold fnd
          have e : fs.find? (fun f => eqB f.n nm) = some fs[i] := by
            rw [List.find?_eq_some_iff_getElem]
            refine ⟨eqB_iff.2 hn, i, hi, rfl, fun j hj => ?_⟩
            have := HN.out fs[j] (List.mem_take_iff_getElem.2 ⟨j, by omega, rfl⟩)
            simp [this]
          rw [e]; rfl
        clear hf hc HN
        go_wp2_with fail
        go_ret
        exact ⟨_, rfl, HI.out, HBW.out⟩
    · have z1 : ¬ (i : Int) < (fs.length : Int) := by omega
      have HI : Hid (idx nm fs (-1)) := by
        refine .inl ⟨List.any_eq_false.2 fun f hf => ?_, rfl⟩
        have := HN.out f (by rw [List.take_of_length_le (by omega)]; exact hf)
        simp [this]
      have HBW : Hid (Below w.heap.size w wr) := HB0.out.trans (HB.out.mono HB0.out.size)
      clear HN
      go_wp2_with fail
      go_ret
      exact ⟨_, rfl, HI.out, HBW.out⟩
end Go.Proofs.Ytedjfbkpebmggaa
