/- Files: what areFiles, Check and size answer. -/
import Derived.Test.YtedjfbkpebmggaaDa
namespace Go.Proofs.Ytedjfbkpebmggaa
open Go.Shelf Go.RowKit Go.Lib Go.Sort
set_option linter.unusedVariables false
set_option linter.unusedSimpArgs false
attribute [local go_sem ↓] Go.wp_at_zero Go.wp_at_succ
/-- How many bytes all of them have. -/
def szs (fs : List DF) : Nat := (fs.map fun f => f.d.size).sum
def badF (last : ByteArray) (room : Nat) (f : DF) : Bool := (ltB f.n last || eqB f.n last) || decide (f.y < 0) || decide ((f.d.size : Int) < f.y) || decide (room < f.d.size)
def areF : ByteArray → Nat → List DF → Bool
  | _, _, [] => true
  | last, room, f :: fs => !badF last room f && areF f.n (room - f.d.size) fs
theorem areF_iff : ∀ (fs : List DF) (last : ByteArray) (room : Nat), areF last room fs = true ↔ (∀ f ∈ fs, ltB last f.n = true) ∧ fs.Pairwise (fun f g => ltB f.n g.n = true) ∧ (∀ f ∈ fs, 0 ≤ f.y ∧ f.y ≤ (f.d.size : Int)) ∧ szs fs ≤ room
  | [], last, room => by simp [areF, szs]
  | f :: fs, last, room => by
    have ih := areF_iff fs f.n (room - f.d.size)
    have e : szs (f :: fs) = f.d.size + szs fs := by simp [szs]
    have hb : badF last room f = false ↔ ltB last f.n = true ∧ 0 ≤ f.y ∧ f.y ≤ (f.d.size : Int) ∧ f.d.size ≤ room := by
      unfold badF
      simp only [Bool.or_eq_false_iff, decide_eq_false_iff_not]
      rw [← Bool.or_eq_false_iff, leB_false]
      constructor
      · rintro ⟨⟨⟨h1, h2⟩, h3⟩, h4⟩; exact ⟨h1, by omega, by omega, by omega⟩
      · rintro ⟨h1, h2, h3, h4⟩; exact ⟨⟨⟨h1, by omega⟩, by omega⟩, by omega⟩
    simp only [areF, Bool.and_eq_true, Bool.not_eq_true', hb, ih, List.mem_cons, forall_eq_or_imp, List.pairwise_cons, e]
    constructor
    · rintro ⟨⟨h1, h2, h3, h4⟩, h5, h6, h7, h8⟩
      exact ⟨⟨h1, fun g hg => ltB_trans h1 (h5 g hg)⟩, ⟨h5, h6⟩, ⟨⟨h2, h3⟩, h7⟩, by omega⟩
    · rintro ⟨⟨h1, h2⟩, ⟨h3, h4⟩, ⟨⟨h5, h6⟩, h7⟩, h8⟩
      exact ⟨⟨h1, h5, h6, by omega⟩, h3, h4, h7, by omega⟩
/-- A disk's files are right. -/
def OkF (fs : List DF) : Prop := (∀ f ∈ fs, f.n ≠ ⟨#[]⟩) ∧ fs.Pairwise (fun f g => ltB f.n g.n = true) ∧ (∀ f ∈ fs, 0 ≤ f.y ∧ f.y ≤ (f.d.size : Int)) ∧ szs fs ≤ 1048576
def okF (fs : List DF) : Bool := areF ⟨#[]⟩ 1048576 fs
theorem okF_iff {fs : List DF} : okF fs = true ↔ OkF fs := by
  unfold okF OkF
  rw [areF_iff]
  simp only [ltB_empty]
theorem areF_step (last : ByteArray) (room : Nat) (fs : List DF) (i : Nat) (h : i < fs.length) : areF last room (fs.drop i) = (!badF last room fs[i] && areF fs[i].n (room - fs[i].d.size) (fs.drop (i + 1))) := by
  rw [List.drop_eq_getElem_cons h]; rfl
set_option maxRecDepth 100000 in
set_option maxHeartbeats 2000000 in
theorem areFiles_any (v : Value) (fs : List DF) (w : World) (h : FsL w v fs) :
    Calls Try.prog 32 #[v] w fun e w' => e = .returned (.bool (okF fs)) ∧ Below w.heap.size w w' := by
  obtain ⟨p, c, rfl, hl, hs, hp⟩ := h
  have HP : Hid (0 < fs.length → ∃ b o, p = some ⟨b, o, none⟩ ∧ b < w.heap.size ∧ FsIs w b o fs) := hp
  have HS : Hid (SmallF fs) := hs
  clear hp hs
  go_enter Try.func32, Try.ntmps32
  go_wp2_with fail
  go_loopg [3, 4, 9] fs.length (fun gf s3 s4 s9 wx => ∃ (i room : Nat) (last : ByteArray), s3 = .string last ∧ s4 = .int .i64 room ∧ s9 = .int .i64 i ∧ i ≤ fs.length ∧ fs.length ≤ i + gf ∧ room ≤ 1048576 ∧ Hid (areF last room (fs.drop i) = okF fs) ∧ Hid (Below w.heap.size w wx))
  case atStart => exact ⟨0, 1048576, ⟨#[]⟩, rfl, rfl, rfl, by omega, by omega, by omega, (show _ = _ from rfl), Below.refl _ _⟩
  case round =>
    obtain ⟨i, room, last, rfl, rfl, rfl, hi1, hgf, hrm, HE, HB⟩ := hrel
    by_cases hi : i < fs.length
    · obtain ⟨g', rfl⟩ : ∃ g', gk = g' + 1 := ⟨gk - 1, by omega⟩
      obtain ⟨b, o, rfl, hlt, hc⟩ := HP.out (by omega)
      obtain ⟨c0, c1, c2⟩ := (hc.below hlt HB.out) i hi
      obtain ⟨s1, s2⟩ := HS.out _ (List.getElem_mem hi)
      have hst := areF_step last room fs i hi
      rw [HE.out] at hst
      obtain ⟨⟨nm, dt, y⟩, hf⟩ : ∃ f, fs[i] = f := ⟨_, rfl⟩
      rw [hf] at c0 c1 c2 s1 s2 hst
      simp only at c0 c1 c2 s1 s2
      have z0 : (0 : Int) ≤ (i : Int) := by omega
      have z1 : (i : Int) < (fs.length : Int) := by omega
      have HB2 : Hid (Below w.heap.size w (wr.alloc (.cells #[.string nm, .string dt, .int .i64 y] 41))) := HB.out.alloc HB.out.size _
      cases hbad : badF last room ⟨nm, dt, y⟩ with
      | true =>
        rw [hbad] at hst
        have HF : Hid (okF fs = false) := by rw [hst]; rfl
        unfold badF ltB eqB at hbad
        simp only at hbad
        clear hst hf hc HE
        by_cases t0 : (Op.bytesLess nm.toList last.toList || nm.toList == last.toList) = true
        · go_wp2_with fail
          go_ret
          exact ⟨by rw [HF.out]; rfl, HB2.out⟩
        · have t0 : (Op.bytesLess nm.toList last.toList || nm.toList == last.toList) = false := by simpa using t0
          by_cases t1 : y < 0
          · go_wp2_with fail
            go_ret
            exact ⟨by rw [HF.out]; rfl, HB2.out⟩
          · by_cases t2 : (dt.size : Int) < y
            · go_wp2_with fail
              go_ret
              exact ⟨by rw [HF.out]; rfl, HB2.out⟩
            · have t3 : (room : Int) < (dt.size : Int) := by
                rw [t0] at hbad
                simp only [Bool.false_or, Bool.or_eq_true, decide_eq_true_eq] at hbad
                omega
              clear hbad
              go_wp2_with fail
              go_ret
              exact ⟨by rw [HF.out]; rfl, HB2.out⟩
      | false =>
        rw [hbad] at hst
        have HE2 : Hid (areF nm (room - dt.size) (fs.drop (i + 1)) = okF fs) := by show _ = _; rw [hst]; simp
        unfold badF ltB eqB at hbad
        simp only [Bool.or_eq_false_iff, decide_eq_false_iff_not] at hbad
        rw [← Bool.or_eq_false_iff] at hbad
        obtain ⟨⟨⟨t0, t1⟩, t2⟩, t3⟩ := hbad
        have t3' : ¬ (room : Int) < (dt.size : Int) := by omega
        have q1 : IntKind.i64.wrap ((room : Int) - (dt.size : Int)) = (room : Int) - (dt.size : Int) := by rw [IntKind.wrap_i64]; omega
        clear hst hf hc HE
        go_wp2_with fail
        go_roundg g'
        case measure => omega
        case rel => exact ⟨i + 1, room - dt.size, nm, rfl, by rw [Int.ofNat_sub (by omega)], by go_num, by omega, by omega, by omega, HE2, HB2⟩
    · have z1 : ¬ (i : Int) < (fs.length : Int) := by omega
      have HF : Hid (okF fs = true) := by
        show _ = _
        rw [← HE.out, List.drop_eq_nil_of_le (by omega)]; rfl
      clear HE
      go_wp2_with fail
      go_ret
      exact ⟨by rw [HF.out]; rfl, HB.out⟩
/-- What Check answers. -/
def chE (fs : List DF) : Int := if okF fs then 0 else 6
set_option maxRecDepth 100000 in
set_option maxHeartbeats 2000000 in
theorem check_any (v : Value) (dn : Bool) (fu : Int) (fs : List DF) (w : World) (h : FsL w v fs) :
    Calls Try.prog 18 #[.agg #[v, .bool dn, .int .i64 fu]] w fun e w' => e = .returned (.int .i64 (chE fs)) ∧ Below w.heap.size w w' := by
  have C1 : Hid (∀ W, Below w.heap.size w W → Calls Try.prog 32 #[v] W fun e w' => e = .returned (.bool (okF fs)) ∧ Below W.heap.size W w') := fun W hb => areFiles_any v fs W (h.below hb)
  obtain ⟨p, c, rfl, _⟩ := h
  unfold chE
  cases hk : okF fs
  all_goals
    rw [hk] at C1
    go_enter Try.func18, Try.ntmps18
    go_wp2_with fail
    refine (C1.out _ (one_below _ _)).mono ?_
    rintro e w1 ⟨rfl, hb⟩
    have HB : Hid (Below w.heap.size w w1) := (one_below _ _).trans (hb.mono (by simp))
    clear hb
    go_wp2_with fail
    go_ret
    exact ⟨rfl, HB.out⟩
theorem szs_take (fs : List DF) (i : Nat) (h : i < fs.length) : szs (fs.take (i + 1)) = szs (fs.take i) + fs[i].d.size := by
  unfold szs
  rw [List.take_succ_eq_append_getElem h, List.map_append, List.sum_append]; simp
theorem szs_take_le (fs : List DF) (i : Nat) : szs (fs.take i) ≤ szs fs := by
  have : szs fs = szs (fs.take i) + szs (fs.drop i) := by
    unfold szs; rw [← List.sum_append, ← List.map_append, List.take_append_drop]
  omega
set_option maxRecDepth 100000 in
set_option maxHeartbeats 2000000 in
theorem size_any (v : Value) (fs : List DF) (w : World) (h : FsL w v fs) (hz : szs fs ≤ 1048576) :
    Calls Try.prog 45 #[v] w fun e w' => e = .returned (.int .i64 (szs fs)) ∧ Below w.heap.size w w' := by
  obtain ⟨p, c, rfl, hl, hs, hp⟩ := h
  have HP : Hid (0 < fs.length → ∃ b o, p = some ⟨b, o, none⟩ ∧ b < w.heap.size ∧ FsIs w b o fs) := hp
  clear hp hs
  go_enter Try.func45, Try.ntmps45
  go_wp2_with fail
  go_loopg [3, 8] fs.length (fun gf s3 s8 wx => ∃ (i n : Nat), s3 = .int .i64 n ∧ s8 = .int .i64 i ∧ i ≤ fs.length ∧ fs.length ≤ i + gf ∧ Hid (n = szs (fs.take i)) ∧ Hid (Below w.heap.size w wx))
  case atStart => exact ⟨0, 0, rfl, rfl, by omega, by omega, (show _ = _ from rfl), Below.refl _ _⟩
  case round =>
    obtain ⟨i, n, rfl, rfl, hi1, hgf, HN, HB⟩ := hrel
    by_cases hi : i < fs.length
    · obtain ⟨g', rfl⟩ : ∃ g', gk = g' + 1 := ⟨gk - 1, by omega⟩
      obtain ⟨b, o, rfl, hlt, hc⟩ := HP.out (by omega)
      obtain ⟨c0, c1, c2⟩ := (hc.below hlt HB.out) i hi
      have hst := szs_take fs i hi
      have hle := szs_take_le fs (i + 1)
      obtain ⟨⟨nm, dt, y⟩, hf⟩ : ∃ f, fs[i] = f := ⟨_, rfl⟩
      rw [hf] at c0 c1 c2 hst
      simp only at c0 c1 c2 hst
      rw [← HN.out] at hst
      have z0 : (0 : Int) ≤ (i : Int) := by omega
      have z1 : (i : Int) < (fs.length : Int) := by omega
      have HB2 : Hid (Below w.heap.size w (wr.alloc (.cells #[.string nm, .string dt, .int .i64 y] 41))) := HB.out.alloc HB.out.size _
      have q1 : IntKind.i64.wrap ((n : Int) + (dt.size : Int)) = (n : Int) + (dt.size : Int) := by rw [IntKind.wrap_i64]; omega
      have HN2 : Hid (n + dt.size = szs (fs.take (i + 1))) := hst.symm
      clear hst hle hf hc HN
      go_wp2_with fail
      go_roundg g'
      case measure => omega
      case rel => exact ⟨i + 1, n + dt.size, by go_num, by go_num, by omega, by omega, HN2, HB2⟩
    · have z1 : ¬ (i : Int) < (fs.length : Int) := by omega
      have HF : Hid (n = szs fs) := by
        show _ = _
        rw [HN.out, List.take_of_length_le (by omega)]
      clear HN
      go_wp2_with fail
      go_ret
      exact ⟨by rw [HF.out]; rfl, HB.out⟩
end Go.Proofs.Ytedjfbkpebmggaa
