/- What slices.symMergeCmpFunc does to rows: two runs, one of a single row. -/
import Derived.Test.YtmagfjlpjjmknaaDoorSc
import Derived.Shelf.SlSortCmp.Insertion1
namespace Go.Proofs.YtmagfjlpjjmknaaDoor
open Go.Shelf Go.RowKit Go.Lib Go.Sort
set_option linter.unusedVariables false
variable {α : Type} [Inhabited α]
/-- So many exchanges of neighbours, upwards. -/
def upTo (d : Array α) (a : Nat) : Nat → Array α
  | 0 => d
  | t + 1 => swp (upTo d a t) (a + t) (a + t + 1)
theorem upTo_spec (d : Array α) (a : Nat) : ∀ t, a + 1 + t ≤ d.size → RotIs d (upTo d a t) a (a + 1) (a + 1 + t) ∧ PermIn a (a + 1 + t) d (upTo d a t)
  | 0, h => ⟨RotIs.same d (.inr rfl), permIn_refl _ _ _⟩
  | t + 1, h => by
    obtain ⟨⟨hz, g⟩, hP⟩ := upTo_spec d a t (by omega)
    refine ⟨⟨by rw [upTo, swp_size, hz], fun k => ?_⟩, ?_⟩
    · rw [upTo, swp_get _ (by omega) (by omega)]
      by_cases c1 : k = a + t + 1
      · rw [if_pos c1, g, if_neg (by omega), if_pos (by omega), if_neg (by omega), if_pos (by omega), show a + t - (a + 1 + t - (a + 1)) = k - (a + 1 + (t + 1) - (a + 1)) by omega]
      · rw [if_neg c1]
        by_cases c2 : k = a + t
        · rw [if_pos c2, g, if_neg (by omega), if_neg (by omega), if_pos (by omega), show k + (a + 1 - a) = a + t + 1 by omega]
        · rw [if_neg c2, g]
          by_cases c3 : a ≤ k ∧ k < a + t
          · rw [if_pos (by omega), if_pos (by omega)]
          · rw [if_neg (by omega), if_neg (by omega), if_neg (by omega), if_neg (by omega)]
    · have h1 := permIn_mono _ _ _ _ a (a + 1 + (t + 1)) (Nat.le_refl _) (by omega) (by omega) hP
      exact permIn_trans _ _ _ _ _ h1 (swp_permIn _ _ _ _ _ (by omega) (by omega) (by omega) (by omega) (by omega))
/-- .. downwards. -/
def downTo (d : Array α) (m : Nat) : Nat → Array α
  | 0 => d
  | t + 1 => swp (downTo d m t) (m - t) (m - t - 1)
theorem downTo_spec (d : Array α) (m : Nat) : ∀ t, t ≤ m → m + 1 ≤ d.size → RotIs d (downTo d m t) (m - t) m (m + 1) ∧ PermIn (m - t) (m + 1) d (downTo d m t)
  | 0, _, h => ⟨RotIs.same d (.inl (by omega)), permIn_refl _ _ _⟩
  | t + 1, h1, h2 => by
    obtain ⟨⟨hz, g⟩, hP⟩ := downTo_spec d m t (by omega) h2
    refine ⟨⟨by rw [downTo, swp_size, hz], fun k => ?_⟩, ?_⟩
    · rw [downTo, swp_get _ (by omega) (by omega)]
      by_cases c1 : k = m - t - 1
      · rw [if_pos c1, g, if_pos (by omega), if_pos (by omega), show m - t + (m - (m - t)) = k + (m - (m - (t + 1))) by omega]
      · rw [if_neg c1]
        by_cases c2 : k = m - t
        · rw [if_pos c2, g, if_neg (by omega), if_neg (by omega), if_neg (by omega), if_pos (by omega), show m - t - 1 = k - (m + 1 - m) by omega]
        · rw [if_neg c2, g]
          by_cases c3 : m - t < k ∧ k < m + 1
          · rw [if_neg (by omega), if_pos (by omega), if_neg (by omega), if_pos (by omega)]
          · rw [if_neg (by omega), if_neg (by omega), if_neg (by omega), if_neg (by omega)]
    · have h3 := permIn_mono _ _ _ _ (m - (t + 1)) (m + 1) (by omega) (Nat.le_refl _) h2 hP
      exact permIn_trans _ _ _ _ _ h3 (swp_permIn _ _ _ _ _ (by omega) (by omega) (by omega) (by omega) (by omega))
set_option maxHeartbeats 8000000 in
set_option maxRecDepth 1000000 in
theorem symMerge_first (enc : α → Value) (cf : α → α → Int) (lt' : α → α → Bool) (hS : SWO lt') (g : Nat) (cb : Array Value) (blk off cap a m b : Nat) (d0 d : Array α) (w0 w : World)
    (eg : ∀ args w, (callFunc g args).run Tryd.prog w = .ok (.enter g args) w) (hcmp : CmpB Tryd.prog g cb enc cf blk off d0.size w0) (R : Row1 enc w0 blk off d0) (hs : d0.size = d.size) (S : SB enc w0 blk off d w) (hm : m = a + 1) (hmb : m < b) (hb : b ≤ d.size) (hsz : d.size < 4611686018427387904)
    (hr : SortedIn lt' m b d) (hag : Agree (ltOf cf) lt' a m b d) :
    Calls Tryd.prog 49 #[.slice (some ⟨blk, off, none⟩) d.size cap, .int .i64 a, .int .i64 m, .int .i64 b, .func (.func g) #[] cb] w fun e w' => e = .returned (.tuple #[]) ∧ ∃ d', SB enc w0 blk off d' w' ∧ PermIn a b d d' ∧ SortedIn lt' a b d' := by
  have mixed : Tryd.prog.follows .mixedOrders = true := by kernel_rfl
  have hcl0 := R.hO.cells
  simp only [Value.cells] at hcl0
  have hst := R.hO.store Tryd.prog
  have HC : Aside _ := hcmp
  have S0 : Aside (SB enc w0 blk off d w) := S
  have HAG : Hid (Agree (ltOf cf) lt' a m b d) := hag
  have HR : Hid (SortedIn lt' m b d) := hr
  have HM : Hid (m = a + 1) := hm
  have tm : (((m : Int) - (a : Int)) == 1) = true := by rw [beq_iff_eq]; omega
  have ham : a < m := by omega
  have rm1 : IntKind.i64.wrap ((m : Int) - (a : Int)) = (m : Int) - (a : Int) := by rw [IntKind.wrap_i64]; omega
  clear S hcmp hag hr hm
  go_enter Tryd.func49, Tryd.ntmps49
  go_wp2
  go_loopg [10, 11] (b - m) (fun kx s10 s11 wr => ∃ (i j : Nat), s10 = .int .i64 i ∧ s11 = .int .i64 j ∧ m ≤ i ∧ i ≤ j ∧ j ≤ b ∧ j - i ≤ kx ∧ Aside (SB enc w0 blk off d wr) ∧ Hid (i = m ∨ ltOf cf d[i - 1]! d[a]! = true) ∧ Hid (j = b ∨ ltOf cf d[j]! d[a]! = false))
  case atStart => exact ⟨m, b, rfl, rfl, by omega, by omega, by omega, by omega, S0, .inl rfl, .inl rfl⟩
  case round =>
    clear S0
    obtain ⟨i, j, rfl, rfl, hmi, hij, hjb, hkx, S1, HI, HJ⟩ := hrel
    by_cases hlt : i < j
    · have hltz : (i : Int) < (j : Int) := by omega
      cases hlv : ltOf cf d[(i + j) / 2]! d[a]! with
      | true =>
        go_wp2_with fail
        obtain ⟨iN1, hiN1⟩ : ∃ q, q = (i + j) / 2 := ⟨_, rfl⟩
        obtain ⟨jN1, hjN1⟩ : ∃ q, q = a := ⟨_, rfl⟩
        have ea1 : (((i : Int) + (j : Int)) / 2).toNat = iN1 := by omega
        have pa1 : (0 : Int) ≤ ((i : Int) + (j : Int)) / 2 := by omega
        have ba1 : ((i : Int) + (j : Int)) / 2 < (d.size : Int) := by omega
        have ra1 : IntKind.i64.wrap (((i : Int) + (j : Int)) / 2) = ((i : Int) + (j : Int)) / 2 := by rw [IntKind.wrap_i64]; omega
        have ec1 : ((a : Int)).toNat = jN1 := by omega
        have pc1 : (0 : Int) ≤ (a : Int) := by omega
        have bc1 : (a : Int) < (d.size : Int) := by omega
        have rc1 : IntKind.i64.wrap ((a : Int)) = (a : Int) := by rw [IntKind.wrap_i64]; omega
        obtain ⟨x1, hx1⟩ : ∃ x, x = d[(i + j) / 2]! := ⟨_, rfl⟩
        obtain ⟨y1, hy1⟩ : ∃ x, x = d[a]! := ⟨_, rfl⟩
        have l1a := S1.out.cl R (by omega) ((i + j) / 2) (by omega)
        have l1b := S1.out.cl R (by omega) (a) (by omega)
        rw [← hx1, ← hiN1] at l1a
        rw [← hy1, ← hjN1] at l1b
        have hc1 := S1.out.cmp HC.out (by omega) x1 y1
        have hv1 : cf x1 y1 < 0 := by rw [hx1, hy1]; exact of_decide_eq_true hlv
        have hd1 : decide (cf x1 y1 < 0) = true := decide_eq_true hv1
        clear hx1 hy1 hiN1 hjN1
        go_wp2_with fail
        have inhL := laterInh
        refine wp_region_laterS mixedOnS (by kernel_rfl) ?_
        repeat (go_big_quiet_step (first | (go_at_fn g; exact calls_laterS (hc1 _))))
        refine wpQuiet_nil ?_
        intro w2 hw'
        obtain ⟨⟨wq, hwq⟩, hw''⟩ := hw'
        subst hw''
        have S2 : Aside (SB enc w0 blk off d w2) := S1.out.below hwq
        clear l1a l1b hc1 S1 hwq
        clear ea1 ec1
        go_wp2_with fail
        go_roundg (j - ((i + j) / 2 + 1))
        case measure => omega
        case rel => exact ⟨(i + j) / 2 + 1, j, by rw [show ((i : Int) + (j : Int)) / 2 + 1 = (((i + j) / 2 + 1 : Nat) : Int) by omega], rfl, by omega, by omega, hjb, by omega, S2, .inr (by rw [Nat.add_sub_cancel]; exact hlv), HJ⟩
      | false =>
        go_wp2_with fail
        obtain ⟨iN2, hiN2⟩ : ∃ q, q = (i + j) / 2 := ⟨_, rfl⟩
        obtain ⟨jN2, hjN2⟩ : ∃ q, q = a := ⟨_, rfl⟩
        have ea2 : (((i : Int) + (j : Int)) / 2).toNat = iN2 := by omega
        have pa2 : (0 : Int) ≤ ((i : Int) + (j : Int)) / 2 := by omega
        have ba2 : ((i : Int) + (j : Int)) / 2 < (d.size : Int) := by omega
        have ra2 : IntKind.i64.wrap (((i : Int) + (j : Int)) / 2) = ((i : Int) + (j : Int)) / 2 := by rw [IntKind.wrap_i64]; omega
        have ec2 : ((a : Int)).toNat = jN2 := by omega
        have pc2 : (0 : Int) ≤ (a : Int) := by omega
        have bc2 : (a : Int) < (d.size : Int) := by omega
        have rc2 : IntKind.i64.wrap ((a : Int)) = (a : Int) := by rw [IntKind.wrap_i64]; omega
        obtain ⟨x2, hx2⟩ : ∃ x, x = d[(i + j) / 2]! := ⟨_, rfl⟩
        obtain ⟨y2, hy2⟩ : ∃ x, x = d[a]! := ⟨_, rfl⟩
        have l2a := S1.out.cl R (by omega) ((i + j) / 2) (by omega)
        have l2b := S1.out.cl R (by omega) (a) (by omega)
        rw [← hx2, ← hiN2] at l2a
        rw [← hy2, ← hjN2] at l2b
        have hc2 := S1.out.cmp HC.out (by omega) x2 y2
        have hv2 : ¬ cf x2 y2 < 0 := by rw [hx2, hy2]; exact of_decide_eq_false hlv
        have hd2 : decide (cf x2 y2 < 0) = false := decide_eq_false hv2
        clear hx2 hy2 hiN2 hjN2
        go_wp2_with fail
        have inhL := laterInh
        refine wp_region_laterS mixedOnS (by kernel_rfl) ?_
        repeat (go_big_quiet_step (first | (go_at_fn g; exact calls_laterS (hc2 _))))
        refine wpQuiet_nil ?_
        intro w2 hw'
        obtain ⟨⟨wq, hwq⟩, hw''⟩ := hw'
        subst hw''
        have S2 : Aside (SB enc w0 blk off d w2) := S1.out.below hwq
        clear l2a l2b hc2 S1 hwq
        clear ea2 ec2
        go_wp2_with fail
        go_roundg ((i + j) / 2 - i)
        case measure => omega
        case rel => exact ⟨i, (i + j) / 2, rfl, by rw [show ((i : Int) + (j : Int)) / 2 = (((i + j) / 2 : Nat) : Int) by omega], hmi, by omega, by omega, by omega, S2, HI, .inr hlv⟩
    · obtain rfl : i = j := by omega
      have hltz : ¬ (i : Int) < (i : Int) := by omega
      obtain ⟨V0, hV0⟩ : ∃ V0 : World, V0 = wr := ⟨_, rfl⟩
      subst hV0
      go_wp2_with fail
      go_loopg [13] (i - 1 - a) (fun kx s13 wr => ∃ (k : Nat) (dk : Array α), s13 = .int .i64 k ∧ a ≤ k ∧ k + 1 ≤ i ∧ i - 1 - k ≤ kx ∧ dk.size = d.size ∧ Aside (SB enc w0 blk off dk wr) ∧ Hid (dk = upTo d a (k - a)))
      case atStart => exact ⟨a, d, rfl, by omega, by omega, by omega, rfl, S1, (by show _ = _; rw [Nat.sub_self]; rfl)⟩
      case round =>
        clear S1
        obtain ⟨k, dk, rfl, hak, hki, hkx2, hds, S1, HD⟩ := hrel
        by_cases hk : k < i - 1
        · have hkz : (k : Int) < (i : Int) - 1 := by omega
          have HD2 : Hid (swp dk k (k + 1) = upTo d a (k + 1 - a)) := by
            show _ = _
            rw [show k + 1 - a = (k - a) + 1 by omega, upTo, ← HD.out, show a + (k - a) = k by omega]
          go_wp2_with fail
          obtain ⟨iN3, hiN3⟩ : ∃ q, q = k := ⟨_, rfl⟩
          obtain ⟨jN3, hjN3⟩ : ∃ q, q = k + 1 := ⟨_, rfl⟩
          have ea3 : ((k : Int)).toNat = iN3 := by omega
          have pa3 : (0 : Int) ≤ (k : Int) := by omega
          have ba3 : (k : Int) < (d.size : Int) := by omega
          have ra3 : IntKind.i64.wrap ((k : Int)) = (k : Int) := by rw [IntKind.wrap_i64]; omega
          have ec3 : ((k : Int) + 1).toNat = jN3 := by omega
          have pc3 : (0 : Int) ≤ (k : Int) + 1 := by omega
          have bc3 : (k : Int) + 1 < (d.size : Int) := by omega
          have rc3 : IntKind.i64.wrap ((k : Int) + 1) = (k : Int) + 1 := by rw [IntKind.wrap_i64]; omega
          obtain ⟨x3, hx3⟩ : ∃ x, x = dk[k]! := ⟨_, rfl⟩
          obtain ⟨y3, hy3⟩ : ∃ x, x = dk[k + 1]! := ⟨_, rfl⟩
          have S2 : Aside (SB enc w0 blk off (swp dk (k) (k + 1)) ((wr.setCell ⟨blk, off + iN3, none⟩ (enc y3)).setCell ⟨blk, off + jN3, none⟩ (enc x3)).drew) := by rw [hiN3, hjN3, hx3, hy3]; exact S1.out.swapped R (k) (k + 1) (by omega) (by omega)
          have c3a := S1.out.c1 R (by omega) (k) (by omega)
          have c3b := S1.out.c1 R (by omega) (k + 1) (by omega)
          have f3a := S1.out.f1 R (by omega) (k) (by omega)
          have f3b := S1.out.f1 R (by omega) (k + 1) (by omega)
          obtain ⟨u3, c3c⟩ := S1.out.c2 R (by omega) (k) (k + 1) (by omega) (by omega) (enc y3)
          rw [← hjN3, ← hiN3] at c3c
          rw [← hx3, ← hiN3] at c3a
          rw [← hy3, ← hjN3] at c3b
          rw [← hiN3] at f3a
          rw [← hjN3] at f3b
          clear S1 hx3 hy3 hiN3 hjN3
          go_wp2_with fail
          go_big_region_o
          clear c3a c3b c3c f3a f3b
          generalize ((wr.setCell ⟨blk, off + iN3, none⟩ (enc y3)).setCell ⟨blk, off + jN3, none⟩ (enc x3)).drew = w2 at S2 ⊢
          clear ea3 ec3
          go_wp2
          go_roundg (i - 1 - (k + 1))
          case measure => omega
          case rel => exact ⟨k + 1, swp dk k (k + 1), by go_num, by omega, by omega, by omega, by rw [size_swp]; exact hds, S2, HD2⟩
        · have hkz : ¬ (k : Int) < (i : Int) - 1 := by omega
          have hfin : PermIn a b d dk ∧ SortedIn lt' a b dk := by
            obtain ⟨hrot, hP⟩ := upTo_spec d a (k - a) (by omega)
            rw [← HD.out, show a + 1 + (k - a) = i by omega] at hrot hP
            have hm := HM.out
            have hag := HAG.out
            have hr := HR.out
            subst hm
            refine ⟨permIn_mono _ _ _ _ _ _ (Nat.le_refl _) hjb hb hP, first_in hS hmi hjb hr ?_ ?_ hrot⟩
            · by_cases hia : i = a + 1
              · exact .inl hia
              rcases HI.out with h | h
              · exact .inl h
              · exact .inr (by rw [← hag a (i - 1) (Nat.le_refl _) (by omega) (by omega) (by omega)]; exact h)
            · rcases HJ.out with h | h
              · exact .inl h
              · by_cases hib : i = b
                · exact .inl hib
                · exact .inr (by rw [← hag a i (Nat.le_refl _) (by omega) hmi (by omega)]; exact h)
          have HF : Hid (PermIn a b d dk ∧ SortedIn lt' a b dk) := hfin
          clear hfin HD HI HJ HAG HR
          go_wp2
          exact bodyPost_ret (v := .tuple #[]) (by simp [results, Tryd.results49, go_sem]) rfl ⟨rfl, dk, S1.out, HF.out.1, HF.out.2⟩
set_option maxHeartbeats 8000000 in
set_option maxRecDepth 1000000 in
theorem symMerge_last (enc : α → Value) (cf : α → α → Int) (lt' : α → α → Bool) (hS : SWO lt') (g : Nat) (cb : Array Value) (blk off cap a m b : Nat) (d0 d : Array α) (w0 w : World)
    (eg : ∀ args w, (callFunc g args).run Tryd.prog w = .ok (.enter g args) w) (hcmp : CmpB Tryd.prog g cb enc cf blk off d0.size w0) (R : Row1 enc w0 blk off d0) (hs : d0.size = d.size) (S : SB enc w0 blk off d w) (hma : m ≠ a + 1) (ham : a < m) (hbm : b = m + 1) (hb : b ≤ d.size) (hsz : d.size < 4611686018427387904)
    (hl : SortedIn lt' a m d) (hag : Agree (ltOf cf) lt' a m b d) :
    Calls Tryd.prog 49 #[.slice (some ⟨blk, off, none⟩) d.size cap, .int .i64 a, .int .i64 m, .int .i64 b, .func (.func g) #[] cb] w fun e w' => e = .returned (.tuple #[]) ∧ ∃ d', SB enc w0 blk off d' w' ∧ PermIn a b d d' ∧ SortedIn lt' a b d' := by
  have mixed : Tryd.prog.follows .mixedOrders = true := by kernel_rfl
  have hcl0 := R.hO.cells
  simp only [Value.cells] at hcl0
  have hst := R.hO.store Tryd.prog
  have HC : Aside _ := hcmp
  have S0 : Aside (SB enc w0 blk off d w) := S
  have HAG : Hid (Agree (ltOf cf) lt' a m b d) := hag
  have HL : Hid (SortedIn lt' a m d) := hl
  have HBM : Hid (b = m + 1) := hbm
  have tm : (((m : Int) - (a : Int)) == 1) = false := beq_eq_false_iff_ne.2 (by omega)
  have tb : (((b : Int) - (m : Int)) == 1) = true := by rw [beq_iff_eq]; omega
  have hmd : m < d.size := by omega
  have hmb : m < b := by omega
  have rm1 : IntKind.i64.wrap ((m : Int) - (a : Int)) = (m : Int) - (a : Int) := by rw [IntKind.wrap_i64]; omega
  have rb1 : IntKind.i64.wrap ((b : Int) - (m : Int)) = (b : Int) - (m : Int) := by rw [IntKind.wrap_i64]; omega
  clear S hcmp hag hl hbm hma
  go_enter Tryd.func49, Tryd.ntmps49
  go_wp2
  go_loopg [14, 15] (m - a) (fun kx s14 s15 wr => ∃ (i j : Nat), s14 = .int .i64 i ∧ s15 = .int .i64 j ∧ a ≤ i ∧ i ≤ j ∧ j ≤ m ∧ j - i ≤ kx ∧ Aside (SB enc w0 blk off d wr) ∧ Hid (i = a ∨ ltOf cf d[m]! d[i - 1]! = false) ∧ Hid (j = m ∨ ltOf cf d[m]! d[j]! = true))
  case atStart => exact ⟨a, m, rfl, rfl, by omega, by omega, by omega, by omega, S0, .inl rfl, .inl rfl⟩
  case round =>
    clear S0
    obtain ⟨i, j, rfl, rfl, hai, hij, hjm, hkx, S1, HI, HJ⟩ := hrel
    by_cases hlt : i < j
    · have hltz : (i : Int) < (j : Int) := by omega
      cases hlv : ltOf cf d[m]! d[(i + j) / 2]! with
      | false =>
        go_wp2_with fail
        obtain ⟨iN1, hiN1⟩ : ∃ q, q = m := ⟨_, rfl⟩
        obtain ⟨jN1, hjN1⟩ : ∃ q, q = (i + j) / 2 := ⟨_, rfl⟩
        have ea1 : ((m : Int)).toNat = iN1 := by omega
        have pa1 : (0 : Int) ≤ (m : Int) := by omega
        have ba1 : (m : Int) < (d.size : Int) := by omega
        have ra1 : IntKind.i64.wrap ((m : Int)) = (m : Int) := by rw [IntKind.wrap_i64]; omega
        have ec1 : (((i : Int) + (j : Int)) / 2).toNat = jN1 := by omega
        have pc1 : (0 : Int) ≤ ((i : Int) + (j : Int)) / 2 := by omega
        have bc1 : ((i : Int) + (j : Int)) / 2 < (d.size : Int) := by omega
        have rc1 : IntKind.i64.wrap (((i : Int) + (j : Int)) / 2) = ((i : Int) + (j : Int)) / 2 := by rw [IntKind.wrap_i64]; omega
        obtain ⟨x1, hx1⟩ : ∃ x, x = d[m]! := ⟨_, rfl⟩
        obtain ⟨y1, hy1⟩ : ∃ x, x = d[(i + j) / 2]! := ⟨_, rfl⟩
        have l1a := S1.out.cl R (by omega) (m) (by omega)
        have l1b := S1.out.cl R (by omega) ((i + j) / 2) (by omega)
        rw [← hx1, ← hiN1] at l1a
        rw [← hy1, ← hjN1] at l1b
        have hc1 := S1.out.cmp HC.out (by omega) x1 y1
        have hv1 : ¬ cf x1 y1 < 0 := by rw [hx1, hy1]; exact of_decide_eq_false hlv
        have hd1 : decide (cf x1 y1 < 0) = false := decide_eq_false hv1
        clear hx1 hy1 hiN1 hjN1
        go_wp2_with fail
        have inhL := laterInh
        refine wp_region_laterS mixedOnS (by kernel_rfl) ?_
        repeat (go_big_quiet_step (first | (go_at_fn g; exact calls_laterS (hc1 _))))
        refine wpQuiet_nil ?_
        intro w2 hw'
        obtain ⟨⟨wq, hwq⟩, hw''⟩ := hw'
        subst hw''
        have S2 : Aside (SB enc w0 blk off d w2) := S1.out.below hwq
        clear l1a l1b hc1 S1 hwq
        clear ea1 ec1
        go_wp2_with fail
        go_roundg (j - ((i + j) / 2 + 1))
        case measure => omega
        case rel => exact ⟨(i + j) / 2 + 1, j, by rw [show ((i : Int) + (j : Int)) / 2 + 1 = (((i + j) / 2 + 1 : Nat) : Int) by omega], rfl, by omega, by omega, hjm, by omega, S2, .inr (by rw [Nat.add_sub_cancel]; exact hlv), HJ⟩
      | true =>
        go_wp2_with fail
        obtain ⟨iN2, hiN2⟩ : ∃ q, q = m := ⟨_, rfl⟩
        obtain ⟨jN2, hjN2⟩ : ∃ q, q = (i + j) / 2 := ⟨_, rfl⟩
        have ea2 : ((m : Int)).toNat = iN2 := by omega
        have pa2 : (0 : Int) ≤ (m : Int) := by omega
        have ba2 : (m : Int) < (d.size : Int) := by omega
        have ra2 : IntKind.i64.wrap ((m : Int)) = (m : Int) := by rw [IntKind.wrap_i64]; omega
        have ec2 : (((i : Int) + (j : Int)) / 2).toNat = jN2 := by omega
        have pc2 : (0 : Int) ≤ ((i : Int) + (j : Int)) / 2 := by omega
        have bc2 : ((i : Int) + (j : Int)) / 2 < (d.size : Int) := by omega
        have rc2 : IntKind.i64.wrap (((i : Int) + (j : Int)) / 2) = ((i : Int) + (j : Int)) / 2 := by rw [IntKind.wrap_i64]; omega
        obtain ⟨x2, hx2⟩ : ∃ x, x = d[m]! := ⟨_, rfl⟩
        obtain ⟨y2, hy2⟩ : ∃ x, x = d[(i + j) / 2]! := ⟨_, rfl⟩
        have l2a := S1.out.cl R (by omega) (m) (by omega)
        have l2b := S1.out.cl R (by omega) ((i + j) / 2) (by omega)
        rw [← hx2, ← hiN2] at l2a
        rw [← hy2, ← hjN2] at l2b
        have hc2 := S1.out.cmp HC.out (by omega) x2 y2
        have hv2 : cf x2 y2 < 0 := by rw [hx2, hy2]; exact of_decide_eq_true hlv
        have hd2 : decide (cf x2 y2 < 0) = true := decide_eq_true hv2
        clear hx2 hy2 hiN2 hjN2
        go_wp2_with fail
        have inhL := laterInh
        refine wp_region_laterS mixedOnS (by kernel_rfl) ?_
        repeat (go_big_quiet_step (first | (go_at_fn g; exact calls_laterS (hc2 _))))
        refine wpQuiet_nil ?_
        intro w2 hw'
        obtain ⟨⟨wq, hwq⟩, hw''⟩ := hw'
        subst hw''
        have S2 : Aside (SB enc w0 blk off d w2) := S1.out.below hwq
        clear l2a l2b hc2 S1 hwq
        clear ea2 ec2
        go_wp2_with fail
        go_roundg ((i + j) / 2 - i)
        case measure => omega
        case rel => exact ⟨i, (i + j) / 2, rfl, by rw [show ((i : Int) + (j : Int)) / 2 = (((i + j) / 2 : Nat) : Int) by omega], hai, by omega, by omega, by omega, S2, HI, .inr hlv⟩
    · obtain rfl : i = j := by omega
      have hltz : ¬ (i : Int) < (i : Int) := by omega
      obtain ⟨V0, hV0⟩ : ∃ V0 : World, V0 = wr := ⟨_, rfl⟩
      subst hV0
      go_wp2_with fail
      go_loopg [17] (m - i) (fun kx s17 wr => ∃ (k : Nat) (dk : Array α), s17 = .int .i64 k ∧ i ≤ k ∧ k ≤ m ∧ k - i ≤ kx ∧ dk.size = d.size ∧ Aside (SB enc w0 blk off dk wr) ∧ Hid (dk = downTo d m (m - k)))
      case atStart => exact ⟨m, d, rfl, by omega, by omega, by omega, rfl, S1, (by show _ = _; rw [Nat.sub_self]; rfl)⟩
      case round =>
        clear S1
        obtain ⟨k, dk, rfl, hik, hkm, hkx2, hds, S1, HD⟩ := hrel
        by_cases hk : i < k
        · have hkz : (i : Int) < (k : Int) := by omega
          have HD2 : Hid (swp dk k (k - 1) = downTo d m (m - (k - 1))) := by
            show _ = _
            rw [show m - (k - 1) = (m - k) + 1 by omega, downTo, ← HD.out, show m - (m - k) = k by omega]
          go_wp2_with fail
          obtain ⟨iN3, hiN3⟩ : ∃ q, q = k := ⟨_, rfl⟩
          obtain ⟨jN3, hjN3⟩ : ∃ q, q = k - 1 := ⟨_, rfl⟩
          have ea3 : ((k : Int)).toNat = iN3 := by omega
          have pa3 : (0 : Int) ≤ (k : Int) := by omega
          have ba3 : (k : Int) < (d.size : Int) := by omega
          have ra3 : IntKind.i64.wrap ((k : Int)) = (k : Int) := by rw [IntKind.wrap_i64]; omega
          have ec3 : ((k : Int) - 1).toNat = jN3 := by omega
          have pc3 : (0 : Int) ≤ (k : Int) - 1 := by omega
          have bc3 : (k : Int) - 1 < (d.size : Int) := by omega
          have rc3 : IntKind.i64.wrap ((k : Int) - 1) = (k : Int) - 1 := by rw [IntKind.wrap_i64]; omega
          obtain ⟨x3, hx3⟩ : ∃ x, x = dk[k]! := ⟨_, rfl⟩
          obtain ⟨y3, hy3⟩ : ∃ x, x = dk[k - 1]! := ⟨_, rfl⟩
          have S2 : Aside (SB enc w0 blk off (swp dk (k) (k - 1)) ((wr.setCell ⟨blk, off + iN3, none⟩ (enc y3)).setCell ⟨blk, off + jN3, none⟩ (enc x3)).drew) := by rw [hiN3, hjN3, hx3, hy3]; exact S1.out.swapped R (k) (k - 1) (by omega) (by omega)
          have c3a := S1.out.c1 R (by omega) (k) (by omega)
          have c3b := S1.out.c1 R (by omega) (k - 1) (by omega)
          have f3a := S1.out.f1 R (by omega) (k) (by omega)
          have f3b := S1.out.f1 R (by omega) (k - 1) (by omega)
          obtain ⟨u3, c3c⟩ := S1.out.c2 R (by omega) (k) (k - 1) (by omega) (by omega) (enc y3)
          rw [← hjN3, ← hiN3] at c3c
          rw [← hx3, ← hiN3] at c3a
          rw [← hy3, ← hjN3] at c3b
          rw [← hiN3] at f3a
          rw [← hjN3] at f3b
          clear S1 hx3 hy3 hiN3 hjN3
          go_wp2_with fail
          go_big_region_o
          clear c3a c3b c3c f3a f3b
          generalize ((wr.setCell ⟨blk, off + iN3, none⟩ (enc y3)).setCell ⟨blk, off + jN3, none⟩ (enc x3)).drew = w2 at S2 ⊢
          clear ea3 ec3
          go_wp2
          go_roundg (k - 1 - i)
          case measure => omega
          case rel => exact ⟨k - 1, swp dk k (k - 1), by congr 1; omega, by omega, by omega, by omega, by rw [size_swp]; exact hds, S2, HD2⟩
        · have hkz : ¬ (i : Int) < (k : Int) := by omega
          have hfin : PermIn a b d dk ∧ SortedIn lt' a b dk := by
            obtain ⟨hrot, hP⟩ := downTo_spec d m (m - k) (by omega) (by omega)
            rw [← HD.out, show m - (m - k) = i by omega] at hrot hP
            have hbm := HBM.out
            have hag := HAG.out
            have hl := HL.out
            subst hbm
            refine ⟨permIn_mono _ _ _ _ _ _ hai (Nat.le_refl _) hb hP, last_in hS hai hjm hl ?_ ?_ hrot⟩
            · by_cases hia : i = a
              · exact .inl hia
              rcases HI.out with h | h
              · exact .inl h
              · exact .inr (by rw [← hag (i - 1) m (by omega) (by omega) (Nat.le_refl _) (by omega)]; exact h)
            · by_cases him : i = m
              · exact .inl him
              rcases HJ.out with h | h
              · exact .inl h
              · exact .inr (by rw [← hag i m hai (by omega) (Nat.le_refl _) (by omega)]; exact h)
          have HF : Hid (PermIn a b d dk ∧ SortedIn lt' a b dk) := hfin
          clear hfin HD HI HJ HAG HL
          go_wp2
          exact bodyPost_ret (v := .tuple #[]) (by simp [results, Tryd.results49, go_sem]) rfl ⟨rfl, dk, S1.out, HF.out.1, HF.out.2⟩
end Go.Proofs.YtmagfjlpjjmknaaDoor
