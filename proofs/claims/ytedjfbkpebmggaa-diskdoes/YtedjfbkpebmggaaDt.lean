/- What Crash answers. -/
import Derived.Test.YtedjfbkpebmggaaDs
namespace Go.Proofs.Ytedjfbkpebmggaa
open Go.Shelf Go.RowKit Go.Lib Go.Sort
set_option linter.unusedVariables false
set_option linter.unusedSimpArgs false
attribute [local go_sem ↓] Go.wp_at_zero Go.wp_at_succ
/-- How much is left of a file, and what. -/
def lft (keep : Int) (f : DF) : Int := f.y + min (max keep 0) ((f.d.size : Int) - f.y)
def crF (keep : Int) (f : DF) : DF := ⟨f.n, f.d.extract 0 (lft keep f).toNat, lft keep f⟩
theorem lft_in {keep : Int} {f : DF} (h : 0 ≤ f.y ∧ f.y ≤ (f.d.size : Int)) : 0 ≤ lft keep f ∧ f.y ≤ lft keep f ∧ lft keep f ≤ (f.d.size : Int) := by unfold lft; omega
theorem row_iff {cur : Array Value} {l : List DF} (h : ∀ j (h : j < l.length), cur[j * 3]? = some (.string l[j].n) ∧ cur[j * 3 + 1]? = some (.string l[j].d) ∧ cur[j * 3 + 2]? = some (.int .i64 l[j].y)) : cur.toList.take (l.length * 3) = flat l := by
  apply List.ext_getElem?
  intro k
  by_cases hk : k < l.length * 3
  · rw [List.getElem?_take_of_lt hk, Array.getElem?_toList]
    obtain ⟨j, r, hr, rfl⟩ : ∃ j r, r < 3 ∧ k = j * 3 + r := ⟨k / 3, k % 3, Nat.mod_lt _ (by omega), by omega⟩
    have hj : j < l.length := by omega
    obtain ⟨a0, a1, a2⟩ := h j hj
    obtain ⟨b0, b1, b2⟩ := flat_at l j hj
    match r, hr with
    | 0, _ => rw [Nat.add_zero, a0, b0]
    | 1, _ => rw [a1, b1]
    | 2, _ => rw [a2, b2]
  · rw [List.getElem?_eq_none (by simp; omega), List.getElem?_eq_none (by rw [flat_length]; omega)]
theorem row_at {cur : Array Value} {l : List DF} (h : cur.toList.take (l.length * 3) = flat l) : ∀ j (h : j < l.length), cur[j * 3]? = some (.string l[j].n) ∧ cur[j * 3 + 1]? = some (.string l[j].d) ∧ cur[j * 3 + 2]? = some (.int .i64 l[j].y) := fun j hj => by
  have hc : ∀ k, k < l.length * 3 → cur[k]? = (flat l)[k]? := fun k hk => by rw [← h, List.getElem?_take_of_lt hk]; simp
  obtain ⟨b0, b1, b2⟩ := flat_at l j hj
  rw [hc _ (by omega), hc _ (by omega), hc _ (by omega)]
  exact ⟨b0, b1, b2⟩
/-- Files of which the first ones are left over. -/
def mixd (keep : Int) (fs : List DF) (i : Nat) : List DF := (fs.take i).map (crF keep) ++ fs.drop i
theorem mixd_length (keep : Int) (fs : List DF) (i : Nat) : (mixd keep fs i).length = fs.length := by unfold mixd; simp; omega
theorem mixd_at (keep : Int) (fs : List DF) (i j : Nat) (h : j < (mixd keep fs i).length) : (mixd keep fs i)[j] = if j < i then crF keep (fs[j]'(by rw [mixd_length] at h; exact h)) else fs[j]'(by rw [mixd_length] at h; exact h) := by
  have hj : j < fs.length := by rw [mixd_length] at h; exact h
  show ((fs.take i).map (crF keep) ++ fs.drop i)[j]'(by simpa [mixd] using h) = _
  by_cases e : j < i
  · rw [List.getElem_append_left (by simp; omega), if_pos e]; simp
  · rw [List.getElem_append_right (by simp; omega), if_neg e]
    simp only [List.getElem_drop, List.length_map, List.length_take]
    congr 1; omega
/-- Files that are being crashed. -/
def CrJ (W0 : World) (g cap : Nat) (keep : Int) (fs : List DF) (i : Nat) (wx : World) : Prop :=
  Below W0.heap.size W0 wx ∧ ∃ cur : Array Value, wx.heap[g]? = some (.cells cur 41 (0, 0)) ∧ cur.size = cap * 3 ∧ ∀ j (h : j < (mixd keep fs i).length), cur[j * 3]? = some (.string (mixd keep fs i)[j].n) ∧ cur[j * 3 + 1]? = some (.string (mixd keep fs i)[j].d) ∧ cur[j * 3 + 2]? = some (.int .i64 (mixd keep fs i)[j].y)
theorem CrJ.below {W0 wx wy : World} {g cap : Nat} {keep : Int} {fs : List DF} {i : Nat} (h : CrJ W0 g cap keep fs i wx) (hb : Below wx.heap.size wx wy) : CrJ W0 g cap keep fs i wy := by
  obtain ⟨h1, cur, hg, r⟩ := h
  exact ⟨h1.trans (hb.mono h1.size), cur, by rw [hb.block _ (Array.getElem?_eq_some_iff.1 hg).1]; exact hg, r⟩
theorem CrJ.put {W0 wx : World} {g cap : Nat} {keep : Int} {fs : List DF} {i : Nat} (h : CrJ W0 g cap keep fs i wx) (hi : i < fs.length) (hcap : fs.length ≤ cap) (hb0 : W0.heap.size ≤ g) :
    ∃ Wa Wb, wx.setCell ⟨g, i * 3 + 1, none⟩ (.string (crF keep fs[i]).d) = Wa ∧ Wa.setCell ⟨g, i * 3 + 2, none⟩ (.int .i64 (crF keep fs[i]).y) = Wb ∧ (∃ o, wx.cell? ⟨g, i * 3 + 1, none⟩ = some o) ∧ wx.frozen? ⟨g, i * 3 + 1, none⟩ = false ∧ (∃ o, Wa.cell? ⟨g, i * 3 + 2, none⟩ = some o) ∧ Wa.frozen? ⟨g, i * 3 + 2, none⟩ = false ∧ CrJ W0 g cap keep fs (i + 1) Wb := by
  obtain ⟨h1, cur, hg, hc, hr⟩ := h
  obtain ⟨a1, a2, a3, a4⟩ := set_row hg (k := i * 3 + 1) (by omega) (.string (crF keep fs[i]).d)
  obtain ⟨b1, b2, b3, b4⟩ := set_row a3 (k := i * 3 + 2) (by simp; omega) (.int .i64 (crF keep fs[i]).y)
  refine ⟨_, _, rfl, rfl, a1, a2, b1, b2, b4 _ _ (a4 _ _ h1 hb0) hb0, _, b3, by simpa using hc, fun j hj => ?_⟩
  have hjn : j < fs.length := by rw [mixd_length] at hj; exact hj
  have hj' : j < (mixd keep fs i).length := by rw [mixd_length]; exact hjn
  obtain ⟨r0, r1, r2⟩ := hr j hj'
  rw [mixd_at] at r0 r1 r2 ⊢
  by_cases e : j = i
  · subst e
    rw [if_neg (by omega)] at r0 r1 r2
    rw [if_pos (by omega)]
    refine ⟨?_, ?_, ?_⟩
    · rw [Array.getElem?_setIfInBounds_ne (by omega), Array.getElem?_setIfInBounds_ne (by omega)]; exact r0
    · rw [Array.getElem?_setIfInBounds_ne (by omega), Array.getElem?_setIfInBounds_self_of_lt (by omega)]
    · rw [Array.getElem?_setIfInBounds_self_of_lt (by simp; omega)]
  · have e2 : (j < i + 1) = (j < i) := by apply propext; omega
    simp only [e2]
    refine ⟨?_, ?_, ?_⟩
    · rw [Array.getElem?_setIfInBounds_ne (by omega), Array.getElem?_setIfInBounds_ne (by omega)]; exact r0
    · rw [Array.getElem?_setIfInBounds_ne (by omega), Array.getElem?_setIfInBounds_ne (by omega)]; exact r1
    · rw [Array.getElem?_setIfInBounds_ne (by omega), Array.getElem?_setIfInBounds_ne (by omega)]; exact r2
/-- What is left of a disk, and why not. -/
def CrR (fs : List DF) (keep : Int) : DR := if okF fs = true then ⟨fs.map (crF keep), false, -1, 0⟩ else ⟨[], false, 0, 6⟩
theorem crbox (w : World) (v : Value) (dn : Bool) (fu : Int) : ∃ W0, (w.alloc (.cells #[v, .bool dn, .int .i64 fu] 24)).alloc (.cells #[.slice none 0 0, .bool false, .int .i64 0] 24) = W0 ∧ Below w.heap.size w W0 ∧ W0.heap.size = w.heap.size + 2 ∧
    (∀ W, Below W0.heap.size W0 W → (W.cell? ⟨w.heap.size, 0, none⟩ = some v ∧ W.cell? ⟨w.heap.size, 1, none⟩ = some (.bool dn) ∧ W.cell? ⟨w.heap.size, 2, none⟩ = some (.int .i64 fu)) ∧ W.heap[w.heap.size + 1]? = some (.cells #[.slice none 0 0, .bool false, .int .i64 0] 24 (0, 0))) := by
  refine ⟨_, rfl, two_below _ _ _, by simp, fun W hb => ?_⟩
  have g0 : W.heap[w.heap.size]? = some (.cells #[v, .bool dn, .int .i64 fu] 24 (0, 0)) := by
    rw [hb.block _ (by simp; omega), heap_alloc_old _ _ (by simp)]; exact heap_alloc_new w _
  have g1 : W.heap[w.heap.size + 1]? = some (.cells #[.slice none 0 0, .bool false, .int .i64 0] 24 (0, 0)) := by
    rw [hb.block _ (by simp)]
    have := heap_alloc_new (w.alloc (.cells #[v, .bool dn, .int .i64 fu] 24)) (.cells #[.slice none 0 0, .bool false, .int .i64 0] 24)
    simpa using this
  exact ⟨⟨cell_of_row g0 rfl, cell_of_row g0 rfl, cell_of_row g0 rfl⟩, g1⟩
theorem crF_small {keep : Int} {fs : List DF} (h : SmallF fs) : SmallF (fs.map (crF keep)) := by
  intro f hf
  obtain ⟨g, hg, rfl⟩ := List.mem_map.1 hf
  refine ⟨(h g hg).1, ?_⟩
  have := (h g hg).2
  unfold crF
  simp only [ByteArray.size_extract]
  omega
set_option maxRecDepth 100000 in
set_option maxHeartbeats 4000000 in
theorem Crash_any (v : Value) (dn : Bool) (fu keep : Int) (fs : List DF) (w : World) (h : FsL w v fs) :
    Calls Try.prog 14 #[.agg #[v, .bool dn, .int .i64 fu], .int .i64 keep] w fun e w' => Did (CrR fs keep) w e w' := by
  obtain ⟨W0, hW0, hb0, hs0, hx⟩ := crbox w v dn fu
  have HX : Hid _ := hx
  have C1 : Hid (Calls Try.prog 18 #[.agg #[v, .bool dn, .int .i64 fu]] W0 fun e w' => e = .returned (.int .i64 (chE fs)) ∧ Below W0.heap.size W0 w') := check_any v dn fu fs W0 (h.below hb0)
  have HB0 : Hid (Below w.heap.size w W0) := hb0
  have HS0 : Hid (W0.heap.size = w.heap.size + 2) := hs0
  obtain ⟨⟨x0, x1, x2⟩, _⟩ := hx W0 (Below.refl _ _)
  have HFL : Hid (FsL w v fs) := h
  have hmany := h.many
  obtain ⟨p, c, rfl, _⟩ := h
  by_cases hok : okF fs = true
  · have HD : Hid (CrR fs keep = ⟨fs.map (crF keep), false, -1, 0⟩) := by show _ = _; unfold CrR; rw [if_pos hok]
    have HO : Hid (OkF fs) := okF_iff.1 hok
    have hch : chE fs = 0 := by unfold chE; rw [if_pos hok]
    have C2 : Hid (∀ W, Below w.heap.size w W → Calls Try.prog 30 #[.slice p fs.length c] W fun e w' => ∃ u, e = .returned u ∧ OwnF W.heap.size w' u fs ∧ Below W.heap.size W w') := fun W hb => cloneF_any _ fs W (HFL.out.below hb)
    rw [hch] at C1
    clear hch hx hb0 hs0 hok
    go_enter Try.func14, Try.ntmps14
    go_wp2_with fail
    refine C1.out.mono ?_
    rintro e w1 ⟨rfl, hb1⟩
    obtain ⟨⟨a0, a1, a2⟩, _⟩ := HX.out w1 hb1
    have CD := C2.out w1 (HB0.out.trans (hb1.mono HB0.out.size))
    have HB1 : Hid (Below W0.heap.size W0 w1) := hb1
    clear C1 C2 hb1 x0 x1 x2
    go_wp2_with fail
    refine CD.mono ?_
    rintro e w2 ⟨u2, rfl, ho2, hb2⟩
    have HB2 : Hid (Below W0.heap.size W0 w2) := HB1.out.trans (hb2.mono HB1.out.size)
    have HTL : Hid (∀ u W, Below W0.heap.size W0 W → FsL W u (fs.map (crF keep)) → Calls Try.prog 23 #[u] W fun e w' => ∃ p c, e = .returned (.slice p fs.length c) ∧ FsL w' (.slice p fs.length c) (fs.map (crF keep)) ∧ Below W0.heap.size W0 w') := fun u W hb hl => (copyFiles_any u _ W hl).mono fun e w' ⟨u', he, ho, hbb⟩ => by
      obtain ⟨p', c', e'⟩ := ho.form
      rw [List.length_map] at e'
      refine ⟨p', c', by rw [he, e'], ?_, hb.trans (hbb.mono hb.size)⟩
      rw [← e']
      exact ho.files hl.many hl.small
    have ho2' := ho2
    obtain ⟨hl, ⟨rfl, h0⟩ | ⟨g, cap, cur, rfl, hbg, hg, hnc, hcm, hcs, htake⟩⟩ := ho2
    · have hf : fs = [] := List.eq_nil_of_length_eq_zero h0
      subst hf
      have CE := HTL.out (.slice none 0 0) w2 HB2.out ⟨none, 0, rfl, by simp, fun f hf => by simp at hf, fun h => by simp at h⟩
      clear h0 hl ho2' hb2 CD a0 a1 a2 HTL
      go_wp2_with fail
      go_loopg [19] 0 (fun gf s19 wx => s19 = .int .i64 0 ∧ wx = w2)
      case atStart => exact ⟨rfl, rfl⟩
      case round =>
        obtain ⟨rfl, hwx⟩ := hrel
        subst hwx
        go_wp2_with fail
        refine CE.mono ?_
        rintro e w3 ⟨p3, c3, rfl, hL3, hb3⟩
        obtain ⟨_, hg3⟩ := HX.out w3 hb3
        obtain ⟨Va, Vb, Vc, hVa, hVb, hVc, ⟨pa, ka⟩, ga, ⟨pb, kb⟩, gb, ⟨pc, kc⟩, gc, hbv, _, r0, r1, r2⟩ := set_disk hg3 (.slice p3 0 c3) (.bool false) (.int .i64 (-1))
        obtain ⟨o5, o6⟩ := set3_other hVa hVb hVc
        have HF : Hid (FsL Vc (.slice p3 0 c3) ([].map (crF keep)) ∧ Below w.heap.size w Vc) := ⟨hL3.but hg3 o5 o6, hbv _ _ (HB0.out.trans (hb3.mono HB0.out.size)) (by omega)⟩
        clear CE hL3 hb3 hg3 hbv o5 o6
        go_wp2_with fail
        exact bodyPost_ret (v := .tuple #[.agg #[.slice p3 0 c3, .bool false, .int .i64 (-1)], .int .i64 0]) (by simp [results, Try.results14, go_sem, r0, r1, r2]) rfl (by rw [HD.out]; exact ⟨_, _, _, rfl, HF.out.1, HF.out.2⟩)
    · have HJ : Hid (CrJ W0 g cap keep fs 0 w2) := by
        refine ⟨HB2.out, cur, hg, hcs, fun j hj => ?_⟩
        have hjn : j < fs.length := by rw [mixd_length] at hj; exact hj
        rw [mixd_at, if_neg (by omega)]
        exact row_at htake j hjn
      have hbg0 : W0.heap.size ≤ g := Nat.le_trans HB1.out.size hbg
      clear hb2 CD ho2' hl hg hcs htake a0 a1 a2 hbg
      have HM : Hid (cap ≤ maxLen) := hcm
      clear hcm
      go_wp2_with fail
      go_loopg [19] fs.length (fun gf s19 wx => ∃ i : Nat, s19 = .int .i64 i ∧ i ≤ fs.length ∧ fs.length ≤ i + gf ∧ Hid (CrJ W0 g cap keep fs i wx))
      case atStart => exact ⟨0, rfl, by omega, by omega, HJ⟩
      case round =>
        clear HJ
        obtain ⟨i, rfl, hi1, hgf, HJ⟩ := hrel
        by_cases hi : i < fs.length
        · obtain ⟨g', rfl⟩ : ∃ g', gk = g' + 1 := ⟨gk - 1, by omega⟩
          obtain ⟨hbj, cur, hg, hcs, hrow⟩ := HJ.out
          obtain ⟨c0, c1, c2⟩ := hrow i (by rw [mixd_length]; exact hi)
          rw [mixd_at, if_neg (by omega)] at c0 c1 c2
          have k0 := cell_of_row hg c0
          have k1 := cell_of_row hg c1
          have k2 := cell_of_row hg c2
          have hfy := HO.out.2.2.1 _ (List.getElem_mem hi)
          have hfs := (HFL.out.small _ (List.getElem_mem hi)).2
          have hlf := lft_in (keep := keep) hfy
          obtain ⟨W1, hW1⟩ : ∃ W1, wr.alloc (.cells #[.string fs[i].n, .string fs[i].d, .int .i64 fs[i].y] 41) = W1 := ⟨_, rfl⟩
          have hb1 : Below wr.heap.size wr W1 := by rw [← hW1]; exact one_below _ _
          have hbx : W1.heap[wr.heap.size]? = some (.cells #[.string fs[i].n, .string fs[i].d, .int .i64 fs[i].y] 41 (0, 0)) := by rw [← hW1]; exact heap_alloc_new wr _
          obtain ⟨Wa, Wb, hWa, hWb, ⟨oa, ca⟩, fa, ⟨ob, cb⟩, fb, hJ2⟩ := (HJ.out.below hb1).put hi hnc hbg0
          have HJ2 : Hid (CrJ W0 g cap keep fs (i + 1) Wb) := hJ2
          have ed : (crF keep fs[i]).d = fs[i].d.extract 0 (lft keep fs[i]).toNat := rfl
          have ey : (crF keep fs[i]).y = lft keep fs[i] := rfl
          rw [ed] at hWa
          rw [ey] at hWb
          have el : fs[i].y + min (max keep 0) ((fs[i].d.size : Int) - fs[i].y) = lft keep fs[i] := rfl
          have b1 := cell_of_row (k := 1) hbx rfl
          have b2 := cell_of_row (k := 2) hbx rfl
          obtain ⟨L, hL⟩ : ∃ L, lft keep fs[i] = L := ⟨_, rfl⟩
          rw [hL] at hWa hWb hlf el
          obtain ⟨⟨n, d, y⟩, hf⟩ : ∃ f, fs[i] = f := ⟨_, rfl⟩
          rw [hf] at k0 k1 k2 hfy hfs hW1 hWa hlf el b1 b2
          simp only at k0 k1 k2 hfy hfs hW1 hWa hlf el b1 b2
          have z0 : (0 : Int) ≤ (i : Int) := by omega
          have z1 : (i : Int) < (fs.length : Int) := by omega
          clear hL hf hbx hb1 hg hcs hrow c0 c1 c2 hbj ed ey HJ hJ2
          go_wp2_with fail
          go_roundg g'
          case measure => omega
          case rel => exact ⟨i + 1, by go_num, by omega, by omega, HJ2⟩
        · have z1 : ¬ (i : Int) < (fs.length : Int) := by omega
          have hLr : FsL wr (.slice (some ⟨g, 0, none⟩) fs.length cap) (fs.map (crF keep)) := by
            obtain ⟨hbj, cur, hg, hcs, hrow⟩ := HJ.out
            have e : mixd keep fs i = fs.map (crF keep) := by unfold mixd; rw [List.take_of_length_le (by omega), List.drop_of_length_le (by omega), List.append_nil]
            rw [e] at hrow
            refine ⟨_, cap, by rw [List.length_map], by rw [List.length_map]; exact hmany, crF_small HFL.out.small, fun _ => ⟨g, 0, rfl, (Array.getElem?_eq_some_iff.1 hg).1, fun j hj => ?_⟩⟩
            obtain ⟨r0, r1, r2⟩ := hrow j hj
            rw [Nat.zero_add]
            exact ⟨cell_of_row hg r0, cell_of_row hg r1, cell_of_row hg r2⟩
          have CE := HTL.out _ wr HJ.out.1 hLr
          clear HJ hLr HTL
          go_wp2_with fail
          refine CE.mono ?_
          rintro e w3 ⟨p3, c3, rfl, hL3, hb3⟩
          obtain ⟨_, hg3⟩ := HX.out w3 hb3
          obtain ⟨Va, Vb, Vc, hVa, hVb, hVc, ⟨pa, ka⟩, ga, ⟨pb, kb⟩, gb, ⟨pc, kc⟩, gc, hbv, _, r0, r1, r2⟩ := set_disk hg3 (.slice p3 fs.length c3) (.bool false) (.int .i64 (-1))
          obtain ⟨o5, o6⟩ := set3_other hVa hVb hVc
          have HF : Hid (FsL Vc (.slice p3 fs.length c3) (fs.map (crF keep)) ∧ Below w.heap.size w Vc) := ⟨hL3.but hg3 o5 o6, hbv _ _ (HB0.out.trans (hb3.mono HB0.out.size)) (by omega)⟩
          clear CE hL3 hb3 hg3 hbv o5 o6
          go_wp2_with fail
          exact bodyPost_ret (v := .tuple #[.agg #[.slice p3 fs.length c3, .bool false, .int .i64 (-1)], .int .i64 0]) (by simp [results, Try.results14, go_sem, r0, r1, r2]) rfl (by rw [HD.out]; exact ⟨_, _, _, rfl, HF.out.1, HF.out.2⟩)
  · have HD : Hid (CrR fs keep = ⟨[], false, 0, 6⟩) := by show _ = _; unfold CrR; rw [if_neg hok]
    have hch : chE fs = 6 := by unfold chE; rw [if_neg hok]
    rw [hch] at C1
    clear hch hx hb0 hs0 hok
    go_enter Try.func14, Try.ntmps14
    go_wp2_with fail
    refine C1.out.mono ?_
    rintro e w1 ⟨rfl, hb1⟩
    obtain ⟨_, hg⟩ := HX.out w1 hb1
    obtain ⟨Wa, Wb, Wc, hWa, hWb, hWc, ⟨oa, ca⟩, fa, ⟨ob, cb⟩, fb, ⟨oc, cc⟩, fc, hbl, _, d0, d1, d2⟩ := set_disk hg (.slice none 0 0) (.bool false) (.int .i64 0)
    have HB : Hid (Below w.heap.size w Wc) := hbl _ _ (HB0.out.trans (hb1.mono HB0.out.size)) (by omega)
    clear hg hbl hb1 C1 x0 x1 x2
    go_wp2_with fail
    exact bodyPost_ret (v := .tuple #[.agg #[.slice none 0 0, .bool false, .int .i64 0], .int .i64 6]) (by simp [results, Try.results14, go_sem, d0, d1, d2]) rfl (by rw [HD.out]; exact ⟨none, 0, 0, rfl, ⟨none, 0, rfl, by simp, fun f hf => by simp at hf, fun h => by simp at h⟩, HB.out⟩)
end Go.Proofs.Ytedjfbkpebmggaa
