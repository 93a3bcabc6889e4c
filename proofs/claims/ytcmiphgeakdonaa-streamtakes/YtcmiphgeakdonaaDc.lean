/- The reference: whether a stream that is received is right. -/
import Derived.Test.YtcmiphgeakdonaaDb
namespace Go.Proofs.Ytcmiphgeakdonaa
open Go.Shelf Go.RowKit Go.Lib Go.Sort
set_option linter.unusedVariables false
set_option linter.unusedSimpArgs false
attribute [local go_sem ↓] Go.wp_at_zero Go.wp_at_succ
/-- What may be of the batches that are held, each told alone. -/
theorem heldP_iff (n : Nat) : ∀ (h : List Bat) (bf : Nat) (pl : Bool), heldP n bf pl h = true ↔ ∀ i (hi : i < h.length), (if i = 0 then bf else (h[i - 1]).s) < h[i].s ∧ h[i].s < n + 4 ∧ h[i].r.length ≤ 8 ∧ (if i = 0 then pl else (h[i - 1]).l) = false
  | [], bf, pl => by simp [heldP]
  | b :: bs, bf, pl => by
    unfold heldP
    have ih := heldP_iff n bs b.s b.l
    constructor
    · intro h
      split at h
      · cases h
      split at h
      · cases h
      split at h
      · cases h
      split at h
      · cases h
      have h2 := ih.1 h
      intro i hi
      cases i with
      | zero => simp; refine ⟨by omega, by omega, by omega, by simpa using ‹¬ pl = true›⟩
      | succ i =>
        have h3 := h2 i (by simpa using hi)
        cases i with
        | zero => simpa using h3
        | succ i => simpa using h3
    · intro h
      have h0 := h 0 (by simp)
      simp at h0
      rw [if_neg (by omega), if_neg (by omega), if_neg (by omega), if_neg (by rw [h0.2.2.2]; simp)]
      refine ih.2 fun i hi => ?_
      have h3 := h (i + 1) (by simpa using hi)
      cases i with
      | zero => simpa using h3
      | succ i => simpa using h3
/-- What the reference finds wrong of one. -/
def badI (n : Nat) (h : List Bat) (i : Nat) (s : Nat) (l : Bool) (r : Nat) : Bool := decide (s ≤ n) || (decide (n + 4 ≤ s) || (decide (8 < r) || ((decide (0 < i) && decide (s ≤ (h[i - 1]?.getD ⟨0, false, []⟩).s)) || (l && decide (i + 1 < h.length)))))
theorem held_good {n : Nat} {h : List Bat} (hg : ∀ i (hi : i < h.length), badI n h i h[i].s h[i].l h[i].r.length = false) : heldP n n false h = true := by
  refine (heldP_iff n h n false).2 fun i hi => ?_
  have h1 := hg i hi
  unfold badI at h1
  simp only [Bool.or_eq_false_iff, Bool.and_eq_false_iff, decide_eq_false_iff_not] at h1
  obtain ⟨a1, a2, a3, a4, a5⟩ := h1
  cases i with
  | zero => simp; omega
  | succ i =>
    have h2 := hg i (by omega)
    unfold badI at h2
    simp only [Bool.or_eq_false_iff, Bool.and_eq_false_iff, decide_eq_false_iff_not] at h2
    obtain ⟨b1, b2, b3, b4, b5⟩ := h2
    have e : h[i + 1 - 1]? = some h[i] := by simp
    rw [e] at a4
    simp only [Option.getD_some] at a4
    simp only [Nat.add_one_ne_zero, if_false, Nat.add_sub_cancel]
    exact ⟨by omega, by omega, by omega, by rcases b5 with b5 | b5; exact b5; omega⟩
theorem held_bad {n : Nat} {h : List Bat} (hp : heldP n n false h = true) : ∀ i (hi : i < h.length), badI n h i h[i].s h[i].l h[i].r.length = false := by
  have hh := (heldP_iff n h n false).1 hp
  have up : ∀ i (hi : i < h.length), n < h[i].s := by
    intro i
    induction i with
    | zero => intro hi; have := (hh 0 hi).1; simpa using this
    | succ i ih => intro hi; have h1 := (hh (i + 1) hi).1; have h2 := ih (by omega); simp at h1; omega
  intro i hi
  have h1 := hh i hi
  have h2 := up i hi
  unfold badI
  simp only [Bool.or_eq_false_iff, Bool.and_eq_false_iff, decide_eq_false_iff_not]
  refine ⟨by omega, by omega, by omega, ?_, ?_⟩
  · cases i with
    | zero => left; omega
    | succ i =>
      right
      have e : h[i + 1 - 1]? = some h[i] := by simp
      rw [e]
      simp only [Option.getD_some]
      have := h1.1
      simp at this
      omega
  · by_cases hl : i + 1 < h.length
    · left
      have h3 := (hh (i + 1) hl).2.2.2
      simpa using h3
    · right; omega
-- WALK
theorem inE_of {x : In_} (h1 : x.n ≤ 512) (h2 : x.r.length ≤ 8 * x.n) (h3 : x.d = true → x.h.length = 0 ∧ x.n ≠ 0) (h4 : heldP x.n x.n false x.h = true) : inE x = 0 := by
  unfold inE
  rw [if_neg (by omega), if_neg (by omega), if_neg (by rw [h4]; simp)]
  split
  · rfl
  · rename_i hd
    have := h3 (by simpa using hd)
    rw [if_neg (by omega), if_neg this.2]
theorem inE_held {x : In_} {i : Nat} (hi : i < x.h.length) (hb : badI x.n x.h i x.h[i].s x.h[i].l x.h[i].r.length = true) : inE x = 6 := by
  have hf : heldP x.n x.n false x.h = false := by
    cases h : heldP x.n x.n false x.h with
    | false => rfl
    | true => have := held_bad h i hi; rw [hb] at this; cases this
  unfold inE
  rw [hf]
  split
  · rfl
  · split
    · rfl
    · rfl
theorem inE_d {x : In_} (h : x.d = true) (hh : 0 < x.h.length ∨ x.n = 0) : inE x = 6 := by
  unfold inE
  repeat' split
  all_goals first | rfl | omega | (rename_i hf _ _; rw [h] at hf; cases hf) | (rename_i hf; rw [h] at hf; cases hf)
set_option maxRecDepth 100000 in
set_option maxHeartbeats 8000000 in
theorem refCheckIn_any (cs : List Value) (x : In_) (K : Nat → Prop) (w : World) (h : rIn K w cs x) (hK : ∀ b, K b → b < w.heap.size) :
    Calls Try.prog 22 #[.agg cs.toArray] w fun e w' => e = .returned (.int .i64 (inE x)) ∧ Below w.heap.size w w' := by
  obtain ⟨q, c, q2, c2, rfl, hok, hn64, hl, hcap, hby, hl2, hcap2, hby2⟩ := in_cells2 h
  obtain ⟨W0, hW0⟩ : ∃ W0, w.alloc (.cells #[.int .u64 (x.m.qb : Int), .int .u64 (x.m.qn : Int), .int .i64 x.m.at_, .int .i64 x.m.fr, .int .i64 x.m.tq, .int .u64 (x.n : Int), .slice q x.h.length c, .slice q2 x.r.length c2, .bool x.d] 68) = W0 := ⟨_, rfl⟩
  have hb0 : Below w.heap.size w W0 := by rw [← hW0]; exact (Below.refl _ _).alloc (Nat.le_refl _) _
  have hg0 : W0.heap[w.heap.size]? = some (.cells #[.int .u64 (x.m.qb : Int), .int .u64 (x.m.qn : Int), .int .i64 x.m.at_, .int .i64 x.m.fr, .int .i64 x.m.tq, .int .u64 (x.n : Int), .slice q x.h.length c, .slice q2 x.r.length c2, .bool x.d] 68 (0, 0)) := by rw [← hW0]; exact heap_alloc_new w _
  have hs0 : w.heap.size < W0.heap.size := (Array.getElem?_eq_some_iff.1 hg0).1
  have HV : Hid (∀ V, Below W0.heap.size W0 V → V.cell? ⟨w.heap.size, 5, none⟩ = some (.int .u64 (x.n : Int)) ∧ V.cell? ⟨w.heap.size, 6, none⟩ = some (.slice q x.h.length c) ∧ Below w.heap.size w V ∧ ListIs rBat 3 40 K V (.slice q x.h.length c) x.h) := fun V hb => by
    have hbw : Below w.heap.size w V := hb0.trans (hb.mono hb0.size)
    exact ⟨(hb.cell (p := ⟨w.heap.size, 5, none⟩) hs0).trans (cell_of_row (k := 5) hg0 rfl), (hb.cell (p := ⟨w.heap.size, 6, none⟩) hs0).trans (cell_of_row (k := 6) hg0 rfl), hbw, hl.mono mBat (fun _ h => h) (kept_of hK hbw)⟩
  have c5 := cell_of_row (k := 5) (v := .int .u64 (x.n : Int)) hg0 rfl
  have c6 := cell_of_row (k := 6) (v := .slice q x.h.length c) hg0 rfl
  have c7 := cell_of_row (k := 7) (v := .slice q2 x.r.length c2) hg0 rfl
  have c8 := cell_of_row (k := 8) (v := .bool x.d) hg0 rfl
  have hx63 : x.h.length ≤ 3518437208883 := by omega
  have hr63 : x.r.length ≤ 5864062014806 := by omega
  have HB0 : Hid (Below w.heap.size w W0) := hb0
  clear h hK hl hl2 hcap hcap2 hby hby2 hb0 hg0 hs0 hok
  by_cases h5 : 512 < x.n
  · have z5 : (512 : Int) < (x.n : Int) := by omega
    have HE : Hid (inE x = 6) := by show _ = _; unfold inE; rw [if_pos h5]
    clear h5 HV
    go_enter Try.func22, Try.ntmps22
    go_wp2_with fail
    go_ret
    exact ⟨by rw [HE.out]; rfl, HB0.out⟩

  · have z5 : ¬ (512 : Int) < (x.n : Int) := by omega
    have hm8 : (x.n : Int) % 18446744073709551616 = (x.n : Int) := by omega
    by_cases h8 : 8 * x.n < x.r.length
    · have z8 : (8 : Int) * (x.n : Int) < (x.r.length : Int) := by omega
      have HE : Hid (inE x = 6) := by show _ = _; unfold inE; rw [if_neg h5, if_pos h8]
      clear h5 h8 HV
      go_enter Try.func22, Try.ntmps22
      go_wp2_with fail
      go_ret
      exact ⟨by rw [HE.out]; rfl, HB0.out⟩

    · have z8 : ¬ (8 : Int) * (x.n : Int) < (x.r.length : Int) := by omega
      have HD : Hid (x.n ≤ 512 ∧ x.r.length ≤ 8 * x.n) := ⟨by omega, by omega⟩
      obtain ⟨dd, hdd⟩ : ∃ dd, x.d = dd := ⟨_, rfl⟩
      have HDD : Hid (x.d = dd) := hdd
      rw [hdd] at c8 hW0
      rw [hdd]
      cases dd with
      | true =>
        by_cases hh : 0 < x.h.length
        · have zh : (0 : Int) < (x.h.length : Int) := by omega
          have zhd : decide (0 < x.h.length) = true := decide_eq_true hh
          have HE : Hid (inE x = 6) := inE_d hdd (.inl hh)
          clear h5 h8 HV hdd
          go_enter Try.func22, Try.ntmps22
          go_wp2_with fail
          go_ret
          exact ⟨by rw [HE.out]; rfl, HB0.out⟩

        · have zh : ¬ (0 : Int) < (x.h.length : Int) := by omega
          have zhd : decide (0 < x.h.length) = false := decide_eq_false hh
          by_cases h0 : x.n = 0
          · have ze : ((x.n : Int) == 0) = true := by simp; omega
            have HE : Hid (inE x = 6) := inE_d hdd (.inr h0)
            have q0 : (x.n : Int) = 0 := by omega
            have q1 : x.r.length = 0 := by omega
            have q2' : x.h.length = 0 := by omega
            rw [q0] at c5 hW0
            rw [q1] at c7 hW0
            rw [q2'] at c6 hW0
            rw [q0, q1, q2']
            clear h5 h8 HV hdd hh h0 q0 q1 q2' z5 z8 hm8 zh zhd ze hn64 hx63 hr63
            go_enter Try.func22, Try.ntmps22
            go_wp2_with fail
            go_ret
            exact ⟨by rw [HE.out]; rfl, HB0.out⟩

          · have ze : ((x.n : Int) == 0) = false := beq_eq_false_iff_ne.2 (by omega)
            have HE : Hid (inE x = 0) := by
              have e : x.h = [] := List.eq_nil_of_length_eq_zero (by omega)
              exact inE_of (by omega) (by omega) (fun _ => ⟨by omega, h0⟩) (by rw [e]; rfl)
            have zl : ¬ (0 : Int) < (x.h.length : Int) := by omega
            have hl0 : x.h.length = 0 := by omega
            clear h5 h8 HV hdd hh h0
            rw [hl0] at c6 hW0 ⊢
            clear hl0 zl zh hx63 zhd
            go_enter Try.func22, Try.ntmps22
            go_wp2_with fail
            go_loopg [36] 1 (fun gf s36 wx => s36 = .int .i64 0 ∧ wx = W0)
            case atStart => exact ⟨rfl, rfl⟩
            case round =>
              obtain ⟨rfl, rfl⟩ := hrel
              go_wp2_with fail
              go_ret
              exact ⟨by rw [HE.out]; rfl, HB0.out⟩
      | false =>
        have HDF : Hid (x.d = false) := hdd
        clear h5 h8 hdd
        go_enter Try.func22, Try.ntmps22
        go_wp2_with fail
        go_loopg [36] x.h.length (fun gf s36 wx => ∃ i : Nat, s36 = .int .i64 i ∧ i ≤ x.h.length ∧ x.h.length ≤ i + gf ∧ Hid (Below W0.heap.size W0 wx) ∧ Hid (∀ j, j < i → ∀ hj : j < x.h.length, badI x.n x.h j x.h[j].s x.h[j].l x.h[j].r.length = false))
        case atStart => exact ⟨0, rfl, by omega, by omega, Below.refl _ _, fun j hj => by omega⟩
        case round =>
          obtain ⟨i, rfl, hi1, hgf, HB, HG⟩ := hrel
          clear c5 c6 c7 c8
          obtain ⟨d5, d6, d7, d8⟩ := HV.out wr HB.out
          by_cases hi : i < x.h.length
          · obtain ⟨g', rfl⟩ : ∃ g', gk = g' + 1 := ⟨gk - 1, by omega⟩
            obtain ⟨b, o, p, cc, rfl, hKb, e0, e1, e2, hsz, hrr⟩ := bat_at d8 i hi
            obtain ⟨y, hy⟩ : ∃ y, x.h[i] = y := ⟨_, rfl⟩
            have HY : Hid (x.h[i] = y) := hy
            rw [hy] at e0 e1 e2 hsz hrr
            obtain ⟨ll, hll⟩ : ∃ ll, y.l = ll := ⟨_, rfl⟩
            rw [hll] at e1
            have hyl : y.r.length ≤ 140737488355328 := by obtain ⟨_, _, _, h9, _⟩ := hrr; omega
            have z0 : (0 : Int) ≤ (i : Int) := by omega
            have z1 : (i : Int) < (x.h.length : Int) := by omega
            have hbN : Hid (Below W0.heap.size W0 (wr.alloc (.cells #[.int .u64 (y.s : Int), .bool ll, .slice p y.r.length cc] 91))) := HB.out.alloc HB.out.size _
            obtain ⟨f5, f6, f7, _⟩ := HV.out _ hbN.out
            have HF7 : Hid (Below w.heap.size w (wr.alloc (.cells #[.int .u64 (y.s : Int), .bool ll, .slice p y.r.length cc] 91))) := f7
            have HBAD : Hid (badI x.n x.h i y.s ll y.r.length = true → inE x = 6) := fun hb => inE_held hi (by rw [hy, hll]; exact hb)
            have HOKK : Hid (badI x.n x.h i y.s ll y.r.length = false → ∀ j, j < i + 1 → ∀ hj : j < x.h.length, badI x.n x.h j x.h[j].s x.h[j].l x.h[j].r.length = false) := fun hb j hj hjn => by
              by_cases hji : j < i
              · exact HG.out j hji hjn
              · have e : j = i := by omega
                subst e
                rw [hy, hll]; exact hb
            have HPV : Hid (∀ j, ∀ hj : j < x.h.length, i = j + 1 → (wr.alloc (.cells #[.int .u64 (y.s : Int), .bool ll, .slice p y.r.length cc] 91)).cell? ⟨b, o + j * 3, none⟩ = some (.int .u64 (x.h[j].s : Int)) ∧ x.h[j].s < 18446744073709551616) := fun j hj hij => by
              obtain ⟨_, _, _, d8⟩ := HV.out _ hbN.out
              obtain ⟨b', o', _, _, eq, _, e1', _, _, e2', _⟩ := bat_at d8 j hj
              cases eq
              exact ⟨e1', e2'⟩
            clear hrr d7 d8 hKb hy f7 HG hll HY
            by_cases h1 : y.s ≤ x.n
            · have y1 : (y.s : Int) ≤ (x.n : Int) := by omega
              have y1d : decide (y.s ≤ x.n) = true := decide_eq_true h1
              have HE : Hid (inE x = 6) := HBAD.out (by unfold badI; simp only [Bool.or_eq_true, Bool.and_eq_true, decide_eq_true_eq]; exact Or.inl h1)
              clear HBAD HOKK HPV
              go_wp2_with fail
              go_quiet (fail)
              go_wp2_with fail
              go_ret
              exact ⟨by rw [HE.out]; rfl, below_drewN HF7.out _⟩

            · have y1 : ¬ (y.s : Int) ≤ (x.n : Int) := by omega
              have y1d : decide (y.s ≤ x.n) = false := decide_eq_false h1
              have ym : ((y.s : Int) - (x.n : Int)) % 18446744073709551616 = (y.s : Int) - (x.n : Int) := by omega
              have ywr : IntKind.u64.wrap ((y.s : Int) - (x.n : Int)) = (y.s : Int) - (x.n : Int) := by rw [IntKind.wrap_u64]; omega
              by_cases h2 : x.n + 4 ≤ y.s
              · have y2 : (4 : Int) ≤ (y.s : Int) - (x.n : Int) := by omega
                have y2d : decide ((4 : Int) ≤ (y.s : Int) - (x.n : Int)) = true := decide_eq_true y2
                have HE : Hid (inE x = 6) := HBAD.out (by unfold badI; simp only [Bool.or_eq_true, Bool.and_eq_true, decide_eq_true_eq]; exact Or.inr (Or.inl h2))
                clear HBAD HOKK HPV
                go_wp2_with fail
                go_quiet (fail)
                go_wp2_with fail
                go_ret
                exact ⟨by rw [HE.out]; rfl, below_drewN HF7.out _⟩

              · have y2 : ¬ (4 : Int) ≤ (y.s : Int) - (x.n : Int) := by omega
                have y2d : decide ((4 : Int) ≤ (y.s : Int) - (x.n : Int)) = false := decide_eq_false y2
                by_cases h3 : 8 < y.r.length
                · have y3 : (8 : Int) < (y.r.length : Int) := by omega
                  have y3d : decide (8 < y.r.length) = true := decide_eq_true h3
                  have HE : Hid (inE x = 6) := HBAD.out (by unfold badI; simp only [Bool.or_eq_true, Bool.and_eq_true, decide_eq_true_eq]; exact Or.inr (Or.inr (Or.inl h3)))
                  clear HBAD HOKK HPV
                  go_wp2_with fail
                  go_quiet (fail)
                  go_wp2_with fail
                  go_ret
                  exact ⟨by rw [HE.out]; rfl, below_drewN HF7.out _⟩

                · have y3 : ¬ (8 : Int) < (y.r.length : Int) := by omega
                  have y3d : decide (8 < y.r.length) = false := decide_eq_false h3
                  have y3e : decide ((8 : Int) < (y.r.length : Int)) = false := decide_eq_false y3
                  by_cases hi0 : i = 0
                  · subst hi0
                    simp only [Nat.zero_mul, Nat.add_zero, Nat.zero_add] at e0 e1 e2
                    cases ll with
                    | true =>
                      by_cases hlt : 0 + 1 < x.h.length
                      · have zt : (0 : Int) < (x.h.length : Int) - 1 := by omega
                        have ztd : decide ((0 : Int) < (x.h.length : Int) - 1) = true := decide_eq_true zt
                        have HE : Hid (inE x = 6) := HBAD.out (by unfold badI; simp only [Bool.or_eq_true, Bool.and_eq_true, decide_eq_true_eq]; exact Or.inr (Or.inr (Or.inr (Or.inr ⟨trivial, hlt⟩))))
                        clear HBAD HOKK HPV
                        go_wp2_with fail
                        go_quiet (fail)
                        go_wp2_with fail
                        go_ret
                        exact ⟨by rw [HE.out]; rfl, below_drewN HF7.out _⟩
                      · have zt : ¬ (0 : Int) < (x.h.length : Int) - 1 := by omega
                        have ztd : decide ((0 : Int) < (x.h.length : Int) - 1) = false := decide_eq_false zt
                        have HG2 : Hid (∀ j, j < 0 + 1 → ∀ hj : j < x.h.length, badI x.n x.h j x.h[j].s x.h[j].l x.h[j].r.length = false) := HOKK.out (by unfold badI; simp only [Bool.or_eq_false_iff, Bool.and_eq_false_iff, decide_eq_false_iff_not]; exact ⟨by omega, by omega, by omega, .inl (by omega), .inr hlt⟩)
                        clear HBAD HOKK HPV
                        go_wp2_with fail
                        go_quiet (fail)
                        go_wp2_with fail
                        go_roundg g'
                        case measure => omega
                        case rel => exact ⟨0 + 1, by go_num, by omega, by omega, below_drewN hbN.out _, HG2⟩
                    | false =>
                      have HG2 : Hid (∀ j, j < 0 + 1 → ∀ hj : j < x.h.length, badI x.n x.h j x.h[j].s x.h[j].l x.h[j].r.length = false) := HOKK.out (by unfold badI; simp only [Bool.or_eq_false_iff, Bool.and_eq_false_iff, decide_eq_false_iff_not]; exact ⟨by omega, by omega, by omega, .inl (by omega), .inl trivial⟩)
                      clear HBAD HOKK HPV
                      go_wp2_with fail
                      go_quiet (fail)
                      go_wp2_with fail
                      go_roundg g'
                      case measure => omega
                      case rel => exact ⟨0 + 1, by go_num, by omega, by omega, below_drewN hbN.out _, HG2⟩

                  · obtain ⟨j, rfl⟩ : ∃ j, i = j + 1 := ⟨i - 1, by omega⟩
                    have zi : (0 : Int) < (j : Int) + 1 := by omega
                    have zid : decide (0 < (j : Int) + 1) = true := decide_eq_true (by omega)
                    have zin : decide (0 < j + 1) = true := decide_eq_true (by omega)
                    have hjl : j < x.h.length := by omega
                    obtain ⟨hpc, hp64⟩ := HPV.out j hjl rfl
                    obtain ⟨ps, hps⟩ : ∃ ps, x.h[j].s = ps := ⟨_, rfl⟩
                    rw [hps] at hpc hp64
                    have hpe : (x.h[j + 1 - 1]?.getD ⟨0, false, []⟩).s = ps := by
                      have e : x.h[j + 1 - 1]? = some x.h[j] := by rw [show j + 1 - 1 = j by omega]; exact List.getElem?_eq_getElem hjl
                      rw [e]; exact hps
                    have zj : (0 : Int) ≤ (j : Int) := by omega
                    have zjw : IntKind.i64.wrap (j : Int) = (j : Int) := by rw [IntKind.wrap_i64]; omega
                    have zj2 : (j : Int) < (x.h.length : Int) := by omega
                    clear hps
                    by_cases h4 : y.s ≤ ps
                    · have y4 : (y.s : Int) ≤ (ps : Int) := by omega
                      have y4d : decide (y.s ≤ ps) = true := decide_eq_true h4
                      have HE : Hid (inE x = 6) := HBAD.out (by unfold badI; rw [hpe]; simp only [Bool.or_eq_true, Bool.and_eq_true, decide_eq_true_eq]; exact Or.inr (Or.inr (Or.inr (Or.inl ⟨by omega, h4⟩))))
                      clear HBAD HOKK HPV hpe hi0
                      go_wp2_with fail
                      go_quiet (fail)
                      go_wp2_with fail
                      go_ret
                      exact ⟨by rw [HE.out]; rfl, below_drewN HF7.out _⟩
                    · have y4 : ¬ (y.s : Int) ≤ (ps : Int) := by omega
                      have y4d : decide (y.s ≤ ps) = false := decide_eq_false h4
                      cases ll with
                      | true =>
                        by_cases hlt : (j + 1) + 1 < x.h.length
                        · have zt : ((j : Int) + 1) < (x.h.length : Int) - 1 := by omega
                          have ztd : decide (((j : Int) + 1) < (x.h.length : Int) - 1) = true := decide_eq_true zt
                          have HE : Hid (inE x = 6) := HBAD.out (by unfold badI; simp only [Bool.or_eq_true, Bool.and_eq_true, decide_eq_true_eq]; exact Or.inr (Or.inr (Or.inr (Or.inr ⟨trivial, hlt⟩))))
                          clear HBAD HOKK HPV hpe hi0
                          go_wp2_with fail
                          go_quiet (fail)
                          go_wp2_with fail
                          go_ret
                          exact ⟨by rw [HE.out]; rfl, below_drewN HF7.out _⟩
                        · have zt : ¬ ((j : Int) + 1) < (x.h.length : Int) - 1 := by omega
                          have ztd : decide (((j : Int) + 1) < (x.h.length : Int) - 1) = false := decide_eq_false zt
                          have HG2 : Hid (∀ k, k < (j + 1) + 1 → ∀ hj : k < x.h.length, badI x.n x.h k x.h[k].s x.h[k].l x.h[k].r.length = false) := HOKK.out (by unfold badI; simp only [Bool.or_eq_false_iff, Bool.and_eq_false_iff, decide_eq_false_iff_not]; exact ⟨by omega, by omega, by omega, .inr (by rw [hpe]; exact h4), .inr hlt⟩)
                          clear HBAD HOKK HPV hpe hi0
                          go_wp2_with fail
                          go_quiet (fail)
                          go_wp2_with fail
                          go_roundg g'
                          case measure => omega
                          case rel => exact ⟨(j + 1) + 1, by go_num, by omega, by omega, below_drewN hbN.out _, HG2⟩
                      | false =>
                        have HG2 : Hid (∀ k, k < (j + 1) + 1 → ∀ hj : k < x.h.length, badI x.n x.h k x.h[k].s x.h[k].l x.h[k].r.length = false) := HOKK.out (by unfold badI; simp only [Bool.or_eq_false_iff, Bool.and_eq_false_iff, decide_eq_false_iff_not]; exact ⟨by omega, by omega, by omega, .inr (by rw [hpe]; exact h4), .inl trivial⟩)
                        clear HBAD HOKK HPV hpe hi0
                        go_wp2_with fail
                        go_quiet (fail)
                        go_wp2_with fail
                        go_roundg g'
                        case measure => omega
                        case rel => exact ⟨(j + 1) + 1, by go_num, by omega, by omega, below_drewN hbN.out _, HG2⟩
          · have z1 : ¬ (i : Int) < (x.h.length : Int) := by omega
            have HE : Hid (inE x = 0) := inE_of HD.out.1 HD.out.2 (fun h => by rw [HDF.out] at h; cases h) (held_good fun j hj => HG.out j (by omega) hj)
            have HF : Hid (Below w.heap.size w wr) := d7
            clear HG d7 d8
            go_wp2_with fail
            go_ret
            exact ⟨by rw [HE.out]; rfl, HF.out⟩
end Go.Proofs.Ytcmiphgeakdonaa
