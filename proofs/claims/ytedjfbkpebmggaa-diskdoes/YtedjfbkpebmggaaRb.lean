/- The reference: what Copy, without and with answer. -/
import Derived.Test.YtedjfbkpebmggaaRa
namespace Go.Proofs.Ytedjfbkpebmggaa
open Go.Shelf Go.RowKit Go.Lib Go.Sort
set_option linter.unusedVariables false
set_option linter.unusedSimpArgs false
attribute [local go_sem ↓] Go.wp_at_zero Go.wp_at_succ
/-- A disk that is answered alone. -/
def Was (fs : List DF) (dn : Bool) (fu : Int) (w : World) (e : Ending) (w' : World) : Prop := ∃ p c, e = .returned (.agg #[.slice p fs.length c, .bool dn, .int .i64 fu]) ∧ OwnF (w.heap.size + 2) w' (.slice p fs.length c) fs ∧ Below w.heap.size w w'
theorem files_new (W : World) (u : Value) (fs : List DF) (h : FsL W u fs) :
    ∃ p c W', (Builtin.append_ #[22, 22] 22 #[.slice (some ⟨W.heap.size, 0, none⟩) 0 0, u]).run Try.prog (W.alloc (.cells #[] 41)) = .ok (.slice p fs.length c) W' ∧ OwnF W.heap.size W' (.slice p fs.length c) fs ∧ Below W.heap.size W W' := by
  obtain ⟨i0, hi, hz0, hz1, hz2⟩ := info41
  have hown : (W.alloc (.cells #[] 41)).ownsRow W.heap.size 41 3 (.slice (some ⟨W.heap.size, 0, none⟩) 0 0) 0 [] := ⟨rfl, .inr ⟨W.heap.size, 0, #[], rfl, Nat.le_refl _, heap_alloc_new W _, Nat.le_refl _, Nat.zero_le _, rfl, rfl⟩⟩
  have hbA : Below W.heap.size W (W.alloc (.cells #[] 41)) := one_below _ _
  have hmany := h.many
  obtain ⟨p, c, rfl, hl, hs, hp⟩ := h
  by_cases h0 : 0 < fs.length
  · obtain ⟨b, o, rfl, hlt, hc⟩ := hp h0
    obtain ⟨v', W', e, h2, h3, h4, h5⟩ := run_append_own_at (P := Try.prog) (W.alloc (.cells #[] 41)) W.heap.size 22 22 41 i0 _ 3 40 Try.underlying22 hi hz0 hz1 hz2 rfl (by omega) _ 0 [] hown ⟨b, o, none⟩ fs.length c (flat fs) (flat_length fs)
      (flat_add (hc.below hlt hbA)) (flat_one fs) (by unfold maxLen; omega) (by omega) (by simp)
    rw [Nat.zero_add, List.nil_append] at h2
    have hO : OwnF W.heap.size W' v' fs := h2
    obtain ⟨p', c', rfl⟩ := hO.form
    exact ⟨p', c', W', e, hO, Below.grown hbA h3 (by simp) (fun j hj => by have := (hown.lt _ hj).1; omega)⟩
  · have : fs = [] := List.eq_nil_of_length_eq_zero (by omega)
    subst this
    refine ⟨some ⟨W.heap.size, 0, none⟩, 0, _, ?_, hown, hbA⟩
    cases p with
    | none => simp [Builtin.append_, run_underlying Try.underlying22, sizeOf, typeInfo, hi, Builtin.lenOf, Builtin.firstCells, loadCells, loadCellsFrom, storeCells]
    | some a =>
      have hl : (loadCells a 0).run Try.prog (W.alloc (.cells #[] 41)) = .ok #[] (W.alloc (.cells #[] 41)) := by simpa using run_loadCells_list (P := Try.prog) (W.alloc (.cells #[] 41)) a [] (by simp)
      simp [Builtin.append_, run_underlying Try.underlying22, sizeOf, typeInfo, hi, Builtin.lenOf, Builtin.firstCells, hl, storeCells]
theorem OwnF.but {b : Nat} {W W' : World} {u : Value} {fs : List DF} (h : OwnF b W u fs) {g : Nat} {p : Option Addr} {n c : Nat} {d : Bool} {i : Int} (hg : W.heap[g]? = some (.cells #[.slice p n c, .bool d, .int .i64 i] 24 (0, 0))) (hk : ∀ m, m ≠ g → W'.heap[m]? = W.heap[m]?) : OwnF b W' u fs := by
  obtain ⟨hl, h0 | ⟨g', cap, cur, e, hbg, hg', r⟩⟩ := h
  · exact ⟨hl, .inl h0⟩
  · have hne : g' ≠ g := by
      rintro rfl
      rw [hg] at hg'
      simp at hg'
    exact ⟨hl, .inr ⟨g', cap, cur, e, hbg, by rw [hk _ hne]; exact hg', r⟩⟩
set_option maxRecDepth 100000 in
set_option maxHeartbeats 4000000 in
theorem refCopy_any (v : Value) (dn : Bool) (fu : Int) (fs : List DF) (w : World) (h : FsL w v fs) :
    Calls Try.prog 9 #[.agg #[v, .bool dn, .int .i64 fu]] w fun e w' => Was fs dn fu w e w' := by
  obtain ⟨W0, hW0, hb0, hs0, hx⟩ := crbox w v dn fu
  obtain ⟨⟨x0, x1, x2⟩, _⟩ := hx W0 (Below.refl _ _)
  obtain ⟨p', c', W', hrun, hown, hbw⟩ := files_new W0 v fs (h.below hb0)
  have hg0 : W'.heap[w.heap.size]? = some (.cells #[v, .bool dn, .int .i64 fu] 24 (0, 0)) := by
    rw [hbw.block _ (by omega), ← hW0, heap_alloc_old _ _ (by simp)]; exact heap_alloc_new w _
  obtain ⟨_, hg1⟩ := hx W' hbw
  obtain ⟨p, c, rfl, _⟩ := h
  have xx0 : (W0.alloc (.cells #[] 41)).cell? ⟨w.heap.size, 0, none⟩ = some (.slice p fs.length c) := by rw [(one_below W0 _).cell (p := ⟨w.heap.size, _, none⟩) (by show w.heap.size < W0.heap.size; omega)]; exact x0
  obtain ⟨⟨oq, cq⟩, fq, hg4, hbl4⟩ := setT_row hg0 (k := 0) (by simp) (.slice p' fs.length c')
  obtain ⟨W4, hW4⟩ : ∃ W4, W'.setCell ⟨w.heap.size, 0, none⟩ (.slice p' fs.length c') = W4 := ⟨_, rfl⟩
  rw [hW4] at hg4 hbl4
  obtain ⟨o3, o4⟩ := set1_other hW4
  have hg14 : W4.heap[w.heap.size + 1]? = some (.cells #[.slice none 0 0, .bool false, .int .i64 0] 24 (0, 0)) := by rw [o3 _ (by omega)]; exact hg1
  have e0 : W4.cell? ⟨w.heap.size, 0, none⟩ = some (.slice p' fs.length c') := cell_of_row hg4 rfl
  have e1 : W4.cell? ⟨w.heap.size, 1, none⟩ = some (.bool dn) := cell_of_row hg4 rfl
  have e2 : W4.cell? ⟨w.heap.size, 2, none⟩ = some (.int .i64 fu) := cell_of_row hg4 rfl
  obtain ⟨Va, Vb, Vc, hVa, hVb, hVc, ⟨pa, ka⟩, ga, ⟨pb, kb⟩, gb, ⟨pc, kc⟩, gc, hbv, _, r0, r1, r2⟩ := set_disk hg14 (.slice p' fs.length c') (.bool dn) (.int .i64 fu)
  obtain ⟨o5, o6⟩ := set3_other hVa hVb hVc
  have HF : Hid (Was fs dn fu w (.returned (.agg #[.slice p' fs.length c', .bool dn, .int .i64 fu])) Vc) := by
    refine ⟨p', c', rfl, ?_, hbv _ _ (hbl4 _ _ (hb0.trans (hbw.mono hb0.size)) (Nat.le_refl _)) (by omega)⟩
    have := ((hown.but hg0 o3).but hg14 o5)
    rw [hs0] at this
    exact this
  have HRN : Hid _ := hrun
  clear hx hb0 hown hbw hg0 hg1 hg4 hbl4 o3 o4 hg14 hbv o5 o6 hs0 hrun
  go_enter Try.func9, Try.ntmps9
  go_wp2_with (at_builtin; refine Lib.wpList_append_run _ rfl _ _ _ _ rfl _ _ rfl rfl _ _ HRN.out ?_)
  exact bodyPost_ret (v := .agg #[.slice p' fs.length c', .bool dn, .int .i64 fu]) (by simp [results, Try.results9, go_sem, r0, r1, r2]) rfl HF.out
theorem cell_three (W : World) (a b c : Value) (t : TypeId) : ∀ j u, ([a, b, c] : List Value)[j]? = some u → (W.alloc (.cells #[a, b, c] t)).cell? ((⟨W.heap.size, 0, none⟩ : Addr).add j) = some u := fun j u hu => by
  rw [Go.WideShapes.add_plain, Nat.zero_add]
  refine cell_box W _ _ _ _ ?_
  match j with
  | 0 => simpa using hu
  | 1 => simpa using hu
  | 2 => simpa using hu
  | j + 3 => simp at hu
theorem cell_three_at (W : World) (a b c : Value) (t : TypeId) (g : Nat) (hg : g = W.heap.size) : ∀ j u, ([a, b, c] : List Value)[j]? = some u → (W.alloc (.cells #[a, b, c] t)).cell? ((⟨g, 0, none⟩ : Addr).add j) = some u := by
  subst hg
  exact cell_three W a b c t
theorem flat_single (n d : ByteArray) (y : Int) : flat [⟨n, d, y⟩] = [.string n, .string d, .int .i64 y] := rfl
/-- Files that are being gathered. -/
def GathF (W0 : World) (v : Value) (ls : List DF) (wx : World) : Prop := OwnF W0.heap.size wx v ls ∧ Below W0.heap.size W0 wx
theorem GathF.alloc {W0 wx : World} {v : Value} {ls : List DF} (h : GathF W0 v ls wx) (o : Obj) : GathF W0 v ls (wx.alloc o) := ⟨h.1.below (one_below _ _), h.2.alloc h.2.size _⟩
set_option maxRecDepth 100000 in
set_option maxHeartbeats 4000000 in
theorem refWithout_any (v : Value) (dn : Bool) (fu : Int) (nm : ByteArray) (fs : List DF) (w : World) (h : FsL w v fs) :
    Calls Try.prog 27 #[.agg #[v, .bool dn, .int .i64 fu], .string nm] w fun e w' => Was (wo nm fs) dn fu w e w' := by
  obtain ⟨W0, hW0, hb0, hs0, hx⟩ := crbox w v dn fu
  obtain ⟨⟨x0, x1, x2⟩, _⟩ := hx W0 (Below.refl _ _)
  have HX : Hid _ := hx
  have HB0 : Hid (Below w.heap.size w W0) := hb0
  have HS0 : Hid (W0.heap.size = w.heap.size + 2) := hs0
  have HG0 : Hid (∀ W, Below W0.heap.size W0 W → W.heap[w.heap.size]? = some (.cells #[v, .bool dn, .int .i64 fu] 24 (0, 0))) := fun W hb => by
    rw [hb.block _ (by omega), ← hW0, heap_alloc_old _ _ (by simp)]; exact heap_alloc_new w _
  have HSM : Hid (SmallF fs) := h.small
  have hmany := h.many
  obtain ⟨p, c, rfl, hl, hs, hp⟩ := h.below hb0
  have HP : Hid (0 < fs.length → ∃ b o, p = some ⟨b, o, none⟩ ∧ b < W0.heap.size ∧ FsIs W0 b o fs) := hp
  obtain ⟨i0, hi0, hz0', hz1', hz2'⟩ := info41
  have HJ0 : Hid (GathF W0 (.slice none 0 0) (wo nm (fs.take 0)) W0) := ⟨World.ownsRow_nil _ _ _ _, Below.refl _ _⟩
  clear hp hs hx hb0 hs0 h
  go_enter Try.func27, Try.ntmps27
  go_wp2_with fail
  go_loopg [5, 11] fs.length (fun gf s5 s11 wx => ∃ (u : Value) (i : Nat), u = s5 ∧ s11 = .int .i64 i ∧ i ≤ fs.length ∧ fs.length ≤ i + gf ∧ Hid (GathF W0 u (wo nm (fs.take i)) wx))
  case atStart => exact ⟨_, 0, rfl, rfl, by omega, by omega, HJ0⟩
  case round =>
    clear HJ0
    obtain ⟨u, i, rfl, rfl, hi1, hgf, HJ⟩ := hrel
    by_cases hi : i < fs.length
    · obtain ⟨g', rfl⟩ : ∃ g', gk = g' + 1 := ⟨gk - 1, by omega⟩
      obtain ⟨b, o, rfl, hlt, hc⟩ := HP.out (by omega)
      obtain ⟨c0, c1, c2⟩ := (hc.below hlt HJ.out.2) i hi
      have hst := wo_step nm fs i hi
      have hln : (wo nm (fs.take i)).length ≤ i := Nat.le_trans (wo_length _ _) (by rw [List.length_take]; omega)
      obtain ⟨⟨n, d, y⟩, hf⟩ : ∃ f, fs[i] = f := ⟨_, rfl⟩
      rw [hf] at c0 c1 c2 hst
      simp only at c0 c1 c2 hst
      have z0 : (0 : Int) ≤ (i : Int) := by omega
      have z1 : (i : Int) < (fs.length : Int) := by omega
      clear hf hc
      cases ha : (n.toList == nm.toList)
      · have ha' : eqB n nm = false := ha
        rw [ha', if_neg (by simp)] at hst
        obtain ⟨ls, hls⟩ : ∃ ls, wo nm (fs.take i) = ls := ⟨_, rfl⟩
        rw [hls] at HJ hst hln
        have HE : Hid (wo nm (fs.take (i + 1)) = ls ++ [⟨n, d, y⟩]) := hst
        have hG1 := HJ.out.alloc (.cells #[.string n, .string d, .int .i64 y] 41)
        have hG2 := hG1.alloc (.cells #[.string n, .string d, .int .i64 y] 41)
        obtain ⟨hown, hbw⟩ := hG2
        unfold OwnF at hown
        have HBW : Hid (Below W0.heap.size W0 ((wr.alloc (.cells #[.string n, .string d, .int .i64 y] 41)).alloc (.cells #[.string n, .string d, .int .i64 y] 41))) := hbw
        have hsz := hbw.size
        clear hst hls ha' hG1 hbw HJ
        go_wp2_with (at_builtin; refine wpList_append_own _ rfl _ _ 22 rfl W0.heap.size 41 i0 _ 3 40 Try.underlying22 hi0 hz0' hz1' hz2' rfl (by decide) _ ls.length _ rfl hown ⟨_, 0, none⟩ 1 1 [.string n, .string d, .int .i64 y] rfl rfl (cell_three_at _ _ _ _ _ _ (by simp)) (fun x hx => by simp at hx; rcases hx with rfl | rfl | rfl <;> rfl) (by unfold maxLen; omega) (by omega) hsz ?_; intro v' w3 hown' hgrow3 hnil3)
        go_roundg g'
        case measure => omega
        case rel =>
          refine ⟨_, i + 1, rfl, by go_num, by omega, by omega, ?_⟩
          show GathF W0 v' _ w3
          rw [HE.out]
          refine ⟨?_, ?_⟩
          · unfold OwnF; rw [List.length_append, flat_append, flat_single]; exact hown'
          · exact Below.grown HBW.out hgrow3 hsz (fun j hj => by have := (hown.lt _ hj).1; omega)
      · have ha' : eqB n nm = true := ha
        rw [ha', if_pos rfl] at hst
        have HJ2 : Hid (GathF W0 u (wo nm (fs.take (i + 1))) (wr.alloc (.cells #[.string n, .string d, .int .i64 y] 41))) := by rw [hst]; exact HJ.out.alloc _
        clear hst ha' HJ
        go_wp2_with fail
        go_roundg g'
        case measure => omega
        case rel => exact ⟨_, i + 1, rfl, by go_num, by omega, by omega, HJ2⟩
    · have z1 : ¬ (i : Int) < (fs.length : Int) := by omega
      obtain ⟨ho, hbw⟩ := HJ.out
      rw [List.take_of_length_le (by omega)] at ho
      obtain ⟨p', c', rfl⟩ := ho.form
      have hg0 := HG0.out wr hbw
      obtain ⟨_, hg1⟩ := HX.out wr hbw
      obtain ⟨⟨oq, cq⟩, fq, hg4, hbl4⟩ := setT_row hg0 (k := 0) (by simp) (.slice p' (wo nm fs).length c')
      obtain ⟨W4, hW4⟩ : ∃ W4, wr.setCell ⟨w.heap.size, 0, none⟩ (.slice p' (wo nm fs).length c') = W4 := ⟨_, rfl⟩
      rw [hW4] at hg4 hbl4
      obtain ⟨o3, o4⟩ := set1_other hW4
      have hg14 : W4.heap[w.heap.size + 1]? = some (.cells #[.slice none 0 0, .bool false, .int .i64 0] 24 (0, 0)) := by rw [o3 _ (by omega)]; exact hg1
      have e0 : W4.cell? ⟨w.heap.size, 0, none⟩ = some (.slice p' (wo nm fs).length c') := cell_of_row hg4 rfl
      have e1 : W4.cell? ⟨w.heap.size, 1, none⟩ = some (.bool dn) := cell_of_row hg4 rfl
      have e2 : W4.cell? ⟨w.heap.size, 2, none⟩ = some (.int .i64 fu) := cell_of_row hg4 rfl
      obtain ⟨Va, Vb, Vc, hVa, hVb, hVc, ⟨pa, ka⟩, ga, ⟨pb, kb⟩, gb, ⟨pc, kc⟩, gc, hbv, _, r0, r1, r2⟩ := set_disk hg14 (.slice p' (wo nm fs).length c') (.bool dn) (.int .i64 fu)
      obtain ⟨o5, o6⟩ := set3_other hVa hVb hVc
      have HF : Hid (Was (wo nm fs) dn fu w (.returned (.agg #[.slice p' (wo nm fs).length c', .bool dn, .int .i64 fu])) Vc) := by
        refine ⟨p', c', rfl, ?_, hbv _ _ (hbl4 _ _ (HB0.out.trans (hbw.mono HB0.out.size)) (Nat.le_refl _)) (by omega)⟩
        have := ((ho.but hg0 o3).but hg14 o5)
        rw [HS0.out] at this
        exact this
      clear ho hbw hg0 hg1 hg4 hbl4 o3 o4 hg14 hbv o5 o6 HJ HP HX HG0
      go_wp2_with fail
      exact bodyPost_ret (v := .agg #[.slice p' (wo nm fs).length c', .bool dn, .int .i64 fu]) (by simp [results, Try.results27, go_sem, r0, r1, r2]) rfl HF.out
end Go.Proofs.Ytedjfbkpebmggaa
