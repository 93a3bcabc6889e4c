/- What slices.symMergeCmpFunc does to rows: two runs. -/
import Derived.Test.YtaekbmpiohmciaaDoorSd
namespace Go.Proofs.YtaekbmpiohmciaaDoor
open Go.Shelf Go.RowKit Go.Lib Go.Sort
set_option linter.unusedVariables false
variable {α : Type} [Inhabited α]
/-- Two runs that were cut and turned. -/
structure Cut3 (lt lt' : α → α → Bool) (a mid b st en : Nat) (d d1 : Array α) : Prop where
  size : d1.size = d.size
  bs : a ≤ st ∧ st ≤ mid ∧ mid ≤ en ∧ en ≤ b ∧ a < mid ∧ mid < b
  s1 : SortedIn lt' a st d1
  s2 : SortedIn lt' st mid d1
  s3 : SortedIn lt' mid en d1
  s4 : SortedIn lt' en b d1
  g1 : Agree lt lt' a st mid d1
  g2 : Agree lt lt' mid en b d1
  cross : ∀ i j, a ≤ i → i < mid → mid ≤ j → j < b → lt' d1[j]! d1[i]! = false
  perm : PermIn a b d d1
variable {lt lt' : α → α → Bool} {a mid b st en : Nat} {d d1 d2 d3 : Array α}
theorem Cut3.left_no (h : Cut3 lt lt' a mid b st en d d1) (hno : ¬ (a < st ∧ st < mid)) : SortedIn lt' a mid d1 := by
  obtain ⟨h1, h2, _⟩ := h.bs
  by_cases e : st = a
  · have := h.s2; rwa [e] at this
  · have e2 : st = mid := by omega
    have := h.s1; rwa [e2] at this
theorem Cut3.right (h : Cut3 lt lt' a mid b st en d d1) (hb : b ≤ d.size) (hP : PermIn a mid d1 d2) : SortedIn lt' mid en d2 ∧ SortedIn lt' en b d2 ∧ Agree lt lt' mid en b d2 ∧ d2.size = d.size ∧ (¬ (mid < en ∧ en < b) → SortedIn lt' mid b d2) := by
  obtain ⟨h1, h2, h3, h4, h5, h6⟩ := h.bs
  have q3 := sorted_off hP (.inr (Nat.le_refl _)) h.s3
  have q4 := sorted_off hP (.inr h3) h.s4
  refine ⟨q3, q4, fun i j a1 a2 a3 a4 => ?_, by rw [hP.1, h.size], fun hno => ?_⟩
  · rw [hP.2.1 i (.inr a1), hP.2.1 j (.inr (by omega))]
    exact h.g2 i j a1 a2 a3 a4
  · by_cases e : en = mid
    · rwa [e] at q4
    · have e2 : en = b := by omega
      rwa [e2] at q3
theorem Cut3.fin (h : Cut3 lt lt' a mid b st en d d1) (hb : b ≤ d.size) (hP1 : PermIn a mid d1 d2) (hS1 : SortedIn lt' a mid d2) (hP2 : PermIn mid b d2 d3) (hS2 : SortedIn lt' mid b d3) : PermIn a b d d3 ∧ SortedIn lt' a b d3 := by
  obtain ⟨h1, h2, h3, h4, h5, h6⟩ := h.bs
  have z1 := h.size
  have z2 := hP1.1
  refine ⟨permIn_trans _ _ _ _ _ (permIn_trans _ _ _ _ _ h.perm (permIn_mono _ _ _ _ _ _ (Nat.le_refl _) (by omega) (by omega) hP1)) (permIn_mono _ _ _ _ _ _ (by omega) (Nat.le_refl _) (by omega) hP2), ?_⟩
  exact sorted_join (sorted_off hP2 (.inl (Nat.le_refl _)) hS1) hS2 (cross_right (by omega) hP2 (cross_left (by omega) hP1 h.cross))
theorem cut3_of (hS : SWO lt') {m n s0 r0 : Nat} (h1 : a < m) (h2 : m < b) (hb : b ≤ d.size) (hmid : mid = (a + b) / 2) (hn : n = mid + m) (hen : en + st = n)
    (hs0 : s0 = if mid < m then n - b else a) (hr0 : r0 = if mid < m then mid else m) (hst : s0 ≤ st) (hst2 : st ≤ r0) (hl : SortedIn lt' a m d) (hr : SortedIn lt' m b d) (hag : Agree lt lt' a m b d)
    (hp : st = s0 ∨ lt d[n - st]! d[st - 1]! = false) (hq : st = r0 ∨ lt d[n - 1 - st]! d[st]! = true) (hrot : RotIs d d1 st m en) (hP : PermIn a b d d1) : Cut3 lt lt' a mid b st en d d1 := by
  have bnd : a ≤ st ∧ st ≤ mid ∧ st ≤ m ∧ m ≤ en ∧ mid ≤ en ∧ en ≤ b ∧ a < mid ∧ mid < b := by
    split at hs0 <;> split at hr0 <;> omega
  obtain ⟨b1, b2, b3, b4, b5, b6, b7, b8⟩ := bnd
  have hp' : st = s0 ∨ lt' d[n - st]! d[st - 1]! = false := by
    by_cases e : st = s0
    · exact .inl e
    rcases hp with hp | hp
    · exact .inl hp
    · right
      have e1 : a ≤ st - 1 ∧ n - st < b := by split at hs0 <;> omega
      rw [← hag (st - 1) (n - st) e1.1 (by omega) (by omega) e1.2]; exact hp
  have hq' : st = r0 ∨ lt' d[n - 1 - st]! d[st]! = true := by
    by_cases e : st = r0
    · exact .inl e
    rcases hq with hq | hq
    · exact .inl hq
    · right
      have e1 : st < m ∧ m ≤ n - 1 - st := by split at hr0 <;> omega
      rw [← hag st (n - 1 - st) b1 e1.1 e1.2 (by omega)]; exact hq
  obtain ⟨_, ⟨q1, q2, q3, q4⟩, ⟨k1, k2, k3, k4⟩, cr⟩ := cut_sorted hS h1 h2 hmid hn hen hs0 hr0 hst hst2 hl hr hp' hq' hrot
  refine ⟨hrot.1, ⟨b1, b2, b5, b6, b7, b8⟩, q1, q2, q3, q4, fun i j a1 a2 a3 a4 => ?_, fun i j a1 a2 a3 a4 => ?_, cr, hP⟩
  · rw [k1 i a2, k2 j a3 a4]
    exact hag _ _ a1 (by omega) (by omega) (by omega)
  · rw [k3 i a1 a2, k4 j a3]
    exact hag _ _ (by omega) (by omega) (by omega) a4
theorem rot_of (d : Array α) {st m en : Nat} (h1 : st < m) (h2 : m < en) (h3 : a ≤ st) (h4 : en ≤ b) (hb : b ≤ d.size) : RotIs d (rotLoop m (en - st) (m - st) (en - m) d) st m en ∧ PermIn a b d (rotLoop m (en - st) (m - st) (en - m) d) := by
  have := rotLoop_spec m a b (en - st) (m - st) (en - m) d (by omega) (by omega) (by omega) (by omega) (by omega) hb
  rwa [show m - (m - st) = st by omega, show m + (en - m) = en by omega] at this
set_option maxHeartbeats 16000000 in
set_option maxRecDepth 1000000 in
theorem symMerge_gen (enc : α → Value) (cf : α → α → Int) (lt' : α → α → Bool) (hS : SWO lt') (g : Nat) (cb : Array Value) (blk off cap a m b : Nat) (d0 d : Array α) (w0 w : World)
    (eg : ∀ args w, (callFunc g args).run Tryd.prog w = .ok (.enter g args) w) (hcmp : CmpB Tryd.prog g cb enc cf blk off d0.size w0) (R : Row1 enc w0 blk off d0) (hs : d0.size = d.size) (S : SB enc w0 blk off d w) (hma : m ≠ a + 1) (ham : a < m) (hbm : b ≠ m + 1) (hmb : m < b) (hb : b ≤ d.size) (hsz : d.size < 4611686018427387904)
    (hl : SortedIn lt' a m d) (hr : SortedIn lt' m b d) (hag : Agree (ltOf cf) lt' a m b d)
    (IH : ∀ (a' m' b' : Nat) (d' : Array α) (W : World), b' - a' < b - a → d'.size = d.size → SB enc w0 blk off d' W → a' < m' → m' < b' → b' ≤ d.size → SortedIn lt' a' m' d' → SortedIn lt' m' b' d' → Agree (ltOf cf) lt' a' m' b' d' →
      Calls Tryd.prog 78 #[.slice (some ⟨blk, off, none⟩) d.size cap, .int .i64 a', .int .i64 m', .int .i64 b', .func (.func g) #[] cb] W fun e w' => e = .returned (.tuple #[]) ∧ ∃ d'', SB enc w0 blk off d'' w' ∧ PermIn a' b' d' d'' ∧ SortedIn lt' a' b' d'') :
    Calls Tryd.prog 78 #[.slice (some ⟨blk, off, none⟩) d.size cap, .int .i64 a, .int .i64 m, .int .i64 b, .func (.func g) #[] cb] w fun e w' => e = .returned (.tuple #[]) ∧ ∃ d', SB enc w0 blk off d' w' ∧ PermIn a b d d' ∧ SortedIn lt' a b d' := by
  have mixed : Tryd.prog.follows .mixedOrders = true := by kernel_rfl
  have hcl0 := R.hO.cells
  simp only [Value.cells] at hcl0
  have hst := R.hO.store Tryd.prog
  have HC : Aside _ := hcmp
  have S0 : Aside (SB enc w0 blk off d w) := S
  have HIH : Aside _ := IH
  have CR : Aside (∀ (p q : Nat) W, SB enc w0 blk off d W → p < m → m < q → q ≤ d.size → Calls Tryd.prog 91 #[.slice (some ⟨blk, off, none⟩) d.size cap, .int .i64 p, .int .i64 m, .int .i64 q, .func (.func g) #[] cb] W fun e w' => e = .returned (.tuple #[]) ∧ SB enc w0 blk off (rotLoop m (q - p) (m - p) (q - m) d) w') := fun p q W h1 h2 h3 h4 => rotate_any enc _ blk off cap p m q d0 d w0 W R hs h1 h2 h3 h4 hsz
  obtain ⟨mid, hmid⟩ : ∃ q, q = (a + b) / 2 := ⟨_, rfl⟩
  obtain ⟨n, hn⟩ : ∃ q, q = mid + m := ⟨_, rfl⟩
  obtain ⟨s0, hs0⟩ : ∃ q, q = if mid < m then n - b else a := ⟨_, rfl⟩
  obtain ⟨r0, hr0⟩ : ∃ q, q = if mid < m then mid else m := ⟨_, rfl⟩
  have CUT : Hid (∀ st en d1, en + st = n → s0 ≤ st → st ≤ r0 → (st = s0 ∨ ltOf cf d[n - st]! d[st - 1]! = false) → (st = r0 ∨ ltOf cf d[n - 1 - st]! d[st]! = true) → RotIs d d1 st m en → PermIn a b d d1 → Cut3 (ltOf cf) lt' a mid b st en d d1) := fun st en d1 e1 e2 e3 e4 e5 e6 e7 => cut3_of hS ham hmb hb hmid hn e1 hs0 hr0 e2 e3 hl hr hag e4 e5 e6 e7
  have bb : a ≤ s0 ∧ s0 ≤ r0 ∧ r0 ≤ m ∧ r0 ≤ mid ∧ n ≤ b + s0 ∧ m ≤ n - r0 ∧ a < mid ∧ mid < b ∧ m ≤ n := by
    split at hs0 <;> split at hr0 <;> omega
  obtain ⟨bb1, bb2, bb3, bb4, bb5, bb6, bb7, bb8, bb9⟩ := bb
  have em : ((a : Int) + (b : Int)) / 2 = (mid : Int) := by omega
  have en0 : (mid : Int) + (m : Int) = (n : Int) := by omega
  have tm : (((m : Int) - (a : Int)) == 1) = false := beq_eq_false_iff_ne.2 (by omega)
  have tb : (((b : Int) - (m : Int)) == 1) = false := beq_eq_false_iff_ne.2 (by omega)
  have rm1 : IntKind.i64.wrap ((m : Int) - (a : Int)) = (m : Int) - (a : Int) := by rw [IntKind.wrap_i64]; omega
  have rb1 : IntKind.i64.wrap ((b : Int) - (m : Int)) = (b : Int) - (m : Int) := by rw [IntKind.wrap_i64]; omega
  have HX : Hid ((mid < m → s0 = n - b ∧ r0 = mid) ∧ (¬ mid < m → s0 = a ∧ r0 = m)) := by
    refine ⟨fun h => ?_, fun h => ?_⟩
    · rw [if_pos h] at hs0 hr0; exact ⟨hs0, hr0⟩
    · rw [if_neg h] at hs0 hr0; exact ⟨hs0, hr0⟩
  have HN : Hid (n = mid + m) := hn
  clear S hcmp hag hl hr hbm hma IH hmid hs0 hr0 hn
  have tr : ((mid : Int) < (m : Int) ∧ (n : Int) - (b : Int) = (s0 : Int) ∧ r0 = mid) ∨ (¬ (mid : Int) < (m : Int) ∧ s0 = a ∧ r0 = m) := by
    by_cases h : mid < m
    · obtain ⟨h1, h2⟩ := HX.out.1 h
      have := HN.out
      exact .inl ⟨by omega, by omega, h2⟩
    · obtain ⟨h1, h2⟩ := HX.out.2 h
      exact .inr ⟨by omega, h1, h2⟩
  go_enter Tryd.func78, Tryd.ntmps78
  rcases tr with ⟨tc, ts, hre⟩ | ⟨tc, hse, hre⟩
  · have HE : Hid (r0 = mid) := hre
    clear hre HX
    go_wp2
    go_loopg [20, 21] (r0 - s0) (fun kx s20 s21 wr => ∃ (st r : Nat), s20 = .int .i64 st ∧ s21 = .int .i64 r ∧ s0 ≤ st ∧ st ≤ r ∧ r ≤ r0 ∧ r - st ≤ kx ∧ Aside (SB enc w0 blk off d wr) ∧ Hid (st = s0 ∨ ltOf cf d[n - st]! d[st - 1]! = false) ∧ Hid (r = r0 ∨ ltOf cf d[n - 1 - r]! d[r]! = true))
    case atStart =>
      have e1 : s0 = s0 := rfl
      have e2 : mid = r0 := HE.out.symm
      exact ⟨s0, mid, rfl, rfl, by omega, by omega, by omega, by omega, S0, .inl e1, .inl e2⟩
    case round =>
      clear S0
      obtain ⟨st, r, rfl, rfl, hst1, hstr, hrr, hkx, S1, HI, HJ⟩ := hrel
      by_cases hlt : st < r
      · have hltz : (st : Int) < (r : Int) := by omega
        obtain ⟨c, hc⟩ : ∃ x, x = (st + r) / 2 := ⟨_, rfl⟩
        have ecz : ((st : Int) + (r : Int)) / 2 = (c : Int) := by omega
        obtain ⟨ix, hq⟩ : ∃ x, x = n - 1 - c := ⟨_, rfl⟩
        have eqz : (n : Int) - 1 - (c : Int) = (ix : Int) := by omega
        have hc1 : st ≤ c := by omega
        have hc2 : c < r := by omega
        have hqd : ix < d.size := by omega
        have HQ : Hid (ix = n - 1 - c) := hq
        clear hc hq
        cases hlv : ltOf cf d[ix]! d[c]! with
        | false =>
          go_wp2_with fail
          obtain ⟨iN1, hiN1⟩ : ∃ q, q = ix := ⟨_, rfl⟩
          obtain ⟨jN1, hjN1⟩ : ∃ q, q = c := ⟨_, rfl⟩
          have ea1 : ((ix : Int)).toNat = iN1 := by omega
          have pa1 : (0 : Int) ≤ (ix : Int) := by omega
          have ba1 : (ix : Int) < (d.size : Int) := by omega
          have ra1 : IntKind.i64.wrap ((ix : Int)) = (ix : Int) := by rw [IntKind.wrap_i64]; omega
          have ec1 : ((c : Int)).toNat = jN1 := by omega
          have pc1 : (0 : Int) ≤ (c : Int) := by omega
          have bc1 : (c : Int) < (d.size : Int) := by omega
          have rc1 : IntKind.i64.wrap ((c : Int)) = (c : Int) := by rw [IntKind.wrap_i64]; omega
          obtain ⟨x1, hx1⟩ : ∃ x, x = d[ix]! := ⟨_, rfl⟩
          obtain ⟨y1, hy1⟩ : ∃ x, x = d[c]! := ⟨_, rfl⟩
          have l1a := S1.out.cl R (by omega) (ix) (by omega)
          have l1b := S1.out.cl R (by omega) (c) (by omega)
          rw [← hx1, ← hiN1] at l1a
          rw [← hy1, ← hjN1] at l1b
          have hc1 := S1.out.cmp HC.out (by omega) x1 y1
          have hv1 : ¬ cf x1 y1 < 0 := by rw [hx1, hy1]; exact of_decide_eq_false hlv
          have hd1 : decide (cf x1 y1 < 0) = false := decide_eq_false hv1
          clear hx1 hy1 hiN1 hjN1
          go_wp2_with fail
          have inhL := laterInh
          refine wp_region_laterS mixedOnS (by kernel_rfl) ?_
          repeat (go_big_quiet_step (first | (go_at_fn g; exact calls_laterS (hc1 _))))
          refine wpQuiet_nil ?_
          intro w2 hw'
          obtain ⟨⟨wq, hwq⟩, hw''⟩ := hw'
          subst hw''
          have S2 : Aside (SB enc w0 blk off d w2) := S1.out.below hwq
          clear l1a l1b hc1 S1 hwq
          clear ea1 ec1
          go_wp2_with fail
          go_roundg (r - (c + 1))
          case measure => omega
          case rel => exact ⟨c + 1, r, by go_num, rfl, by omega, by omega, hrr, by omega, S2, .inr (by rw [Nat.add_sub_cancel, show n - (c + 1) = ix by rw [HQ.out]; omega]; exact hlv), HJ⟩
        | true =>
          go_wp2_with fail
          obtain ⟨iN2, hiN2⟩ : ∃ q, q = ix := ⟨_, rfl⟩
          obtain ⟨jN2, hjN2⟩ : ∃ q, q = c := ⟨_, rfl⟩
          have ea2 : ((ix : Int)).toNat = iN2 := by omega
          have pa2 : (0 : Int) ≤ (ix : Int) := by omega
          have ba2 : (ix : Int) < (d.size : Int) := by omega
          have ra2 : IntKind.i64.wrap ((ix : Int)) = (ix : Int) := by rw [IntKind.wrap_i64]; omega
          have ec2 : ((c : Int)).toNat = jN2 := by omega
          have pc2 : (0 : Int) ≤ (c : Int) := by omega
          have bc2 : (c : Int) < (d.size : Int) := by omega
          have rc2 : IntKind.i64.wrap ((c : Int)) = (c : Int) := by rw [IntKind.wrap_i64]; omega
          obtain ⟨x2, hx2⟩ : ∃ x, x = d[ix]! := ⟨_, rfl⟩
          obtain ⟨y2, hy2⟩ : ∃ x, x = d[c]! := ⟨_, rfl⟩
          have l2a := S1.out.cl R (by omega) (ix) (by omega)
          have l2b := S1.out.cl R (by omega) (c) (by omega)
          rw [← hx2, ← hiN2] at l2a
          rw [← hy2, ← hjN2] at l2b
          have hc2 := S1.out.cmp HC.out (by omega) x2 y2
          have hv2 : cf x2 y2 < 0 := by rw [hx2, hy2]; exact of_decide_eq_true hlv
          have hd2 : decide (cf x2 y2 < 0) = true := decide_eq_true hv2
          clear hx2 hy2 hiN2 hjN2
          go_wp2_with fail
          have inhL := laterInh
          refine wp_region_laterS mixedOnS (by kernel_rfl) ?_
          repeat (go_big_quiet_step (first | (go_at_fn g; exact calls_laterS (hc2 _))))
          refine wpQuiet_nil ?_
          intro w2 hw'
          obtain ⟨⟨wq, hwq⟩, hw''⟩ := hw'
          subst hw''
          have S2 : Aside (SB enc w0 blk off d w2) := S1.out.below hwq
          clear l2a l2b hc2 S1 hwq
          clear ea2 ec2
          go_wp2_with fail
          go_roundg (c - st)
          case measure => omega
          case rel => exact ⟨st, c, rfl, rfl, hst1, by omega, by omega, by omega, S2, HI, .inr (by rw [← HQ.out]; exact hlv)⟩
      · obtain rfl : st = r := by omega
        have hltz : ¬ (st : Int) < (st : Int) := by omega
        have hst2 : st ≤ r0 := hrr
        obtain ⟨en, hen⟩ : ∃ q, q = n - st := ⟨_, rfl⟩
        have een : (n : Int) - (st : Int) = (en : Int) := by omega
        have hen2 : en + st = n := by omega
        have hen3 : m ≤ en ∧ mid ≤ en ∧ en ≤ b ∧ st ≤ mid ∧ st ≤ m ∧ a ≤ st := by have := HN.out; omega
        obtain ⟨hx1, hx2, hx3, hx4, hx5, hx6⟩ := hen3
        clear hen HC
        by_cases q1 : st < m
        · have q1z : (st : Int) < (m : Int) := by omega
          by_cases q2 : m < en
          · have q2z : (m : Int) < (en : Int) := by omega
            have CRR : Aside (Calls Tryd.prog 91 #[.slice (some ⟨blk, off, none⟩) d.size cap, .int .i64 st, .int .i64 m, .int .i64 en, .func (.func g) #[] cb] wr fun e w' => e = .returned (.tuple #[]) ∧ SB enc w0 blk off (rotLoop m (en - st) (m - st) (en - m) d) w') := CR.out st en wr S1.out q1 q2 (by omega)
            obtain ⟨ro1, ro2⟩ := rot_of (a := a) (b := b) d q1 q2 hx6 hx3 hb
            have CT : Hid (Cut3 (ltOf cf) lt' a mid b st en d (rotLoop m (en - st) (m - st) (en - m) d)) := CUT.out st en _ hen2 hst1 hst2 HI.out HJ.out ro1 ro2
            generalize rotLoop m (en - st) (m - st) (en - m) d = d1 at CRR CT
            clear ro1 ro2 CUT HI HJ CR S1 hen2
            go_wp2_with fail
            refine CRR.out.mono ?_
            rintro e w2 ⟨rfl, h1⟩
            have S1 : Aside (SB enc w0 blk off d1 w2) := h1
            clear h1 CRR
            by_cases u1 : a < st
            · have u1z : (a : Int) < (st : Int) := by omega
              by_cases u2 : st < mid
              · have u2z : (st : Int) < (mid : Int) := by omega
                have C1 : Aside (Calls Tryd.prog 78 #[.slice (some ⟨blk, off, none⟩) d.size cap, .int .i64 a, .int .i64 st, .int .i64 mid, .func (.func g) #[] cb] w2 fun e w' => e = .returned (.tuple #[]) ∧ ∃ d'', SB enc w0 blk off d'' w' ∧ PermIn a mid d1 d'' ∧ SortedIn lt' a mid d'') := HIH.out a st mid d1 w2 (by omega) CT.out.size S1.out u1 u2 (by omega) CT.out.s1 CT.out.s2 CT.out.g1
                go_wp2_with fail
                refine C1.out.mono ?_
                rintro e w3 ⟨rfl, d2, h2, p2, q2⟩
                have S2 : Aside (SB enc w0 blk off d2 w3) := h2
                have HP1 : Hid (PermIn a mid d1 d2) := p2
                have HS1 : Hid (SortedIn lt' a mid d2) := q2
                clear h2 p2 q2 C1 S1
                have RT := CT.out.right hb HP1.out
                have RT1 : Hid (SortedIn lt' mid en d2 ∧ SortedIn lt' en b d2 ∧ Agree (ltOf cf) lt' mid en b d2 ∧ d2.size = d.size ∧ (¬ (mid < en ∧ en < b) → SortedIn lt' mid b d2)) := RT
                clear RT
                by_cases v1 : mid < en
                · have v1z : (mid : Int) < (en : Int) := by omega
                  by_cases v2 : en < b
                  · have v2z : (en : Int) < (b : Int) := by omega
                    have C : Aside (Calls Tryd.prog 78 #[.slice (some ⟨blk, off, none⟩) d.size cap, .int .i64 mid, .int .i64 en, .int .i64 b, .func (.func g) #[] cb] w3 fun e w' => e = .returned (.tuple #[]) ∧ ∃ d'', SB enc w0 blk off d'' w' ∧ PermIn mid b d2 d'' ∧ SortedIn lt' mid b d'') := HIH.out mid en b d2 w3 (by omega) RT1.out.2.2.2.1 S2.out v1 v2 hb RT1.out.1 RT1.out.2.1 RT1.out.2.2.1
                    go_wp2_with fail
                    refine C.out.mono ?_
                    rintro e w4 ⟨rfl, d3, h3, p3, q3⟩
                    have S3 : Aside (SB enc w0 blk off d3 w4) := h3
                    have HF : Hid (PermIn a b d d3 ∧ SortedIn lt' a b d3) := CT.out.fin hb HP1.out HS1.out p3 q3
                    clear h3 p3 q3 C RT1 CT HP1 HS1 S2
                    go_wp2
                    go_end0
                    exact ⟨rfl, _, S3.out, HF.out.1, HF.out.2⟩
                  · have v2z : ¬ (en : Int) < (b : Int) := by omega
                    have S3 : Aside (SB enc w0 blk off d2 w3) := S2
                    have HF : Hid (PermIn a b d d2 ∧ SortedIn lt' a b d2) := CT.out.fin hb HP1.out HS1.out (permIn_refl _ _ _) (RT1.out.2.2.2.2 (by omega))
                    clear RT1 CT HP1 HS1 S2
                    go_wp2
                    go_end0
                    exact ⟨rfl, _, S3.out, HF.out.1, HF.out.2⟩
                · have v1z : ¬ (mid : Int) < (en : Int) := by omega
                  have S3 : Aside (SB enc w0 blk off d2 w3) := S2
                  have HF : Hid (PermIn a b d d2 ∧ SortedIn lt' a b d2) := CT.out.fin hb HP1.out HS1.out (permIn_refl _ _ _) (RT1.out.2.2.2.2 (by omega))
                  clear RT1 CT HP1 HS1 S2
                  go_wp2
                  go_end0
                  exact ⟨rfl, _, S3.out, HF.out.1, HF.out.2⟩
              · have u2z : ¬ (st : Int) < (mid : Int) := by omega
                have HP1 : Hid (PermIn a mid d1 d1) := permIn_refl _ _ _
                have HS1 : Hid (SortedIn lt' a mid d1) := CT.out.left_no (by omega)
                have RT := CT.out.right hb HP1.out
                have RT1 : Hid (SortedIn lt' mid en d1 ∧ SortedIn lt' en b d1 ∧ Agree (ltOf cf) lt' mid en b d1 ∧ d1.size = d.size ∧ (¬ (mid < en ∧ en < b) → SortedIn lt' mid b d1)) := RT
                clear RT
                by_cases v1 : mid < en
                · have v1z : (mid : Int) < (en : Int) := by omega
                  by_cases v2 : en < b
                  · have v2z : (en : Int) < (b : Int) := by omega
                    have C : Aside (Calls Tryd.prog 78 #[.slice (some ⟨blk, off, none⟩) d.size cap, .int .i64 mid, .int .i64 en, .int .i64 b, .func (.func g) #[] cb] w2 fun e w' => e = .returned (.tuple #[]) ∧ ∃ d'', SB enc w0 blk off d'' w' ∧ PermIn mid b d1 d'' ∧ SortedIn lt' mid b d'') := HIH.out mid en b d1 w2 (by omega) RT1.out.2.2.2.1 S1.out v1 v2 hb RT1.out.1 RT1.out.2.1 RT1.out.2.2.1
                    go_wp2_with fail
                    refine C.out.mono ?_
                    rintro e w4 ⟨rfl, d3, h3, p3, q3⟩
                    have S3 : Aside (SB enc w0 blk off d3 w4) := h3
                    have HF : Hid (PermIn a b d d3 ∧ SortedIn lt' a b d3) := CT.out.fin hb HP1.out HS1.out p3 q3
                    clear h3 p3 q3 C RT1 CT HP1 HS1 S1
                    go_wp2
                    go_end0
                    exact ⟨rfl, _, S3.out, HF.out.1, HF.out.2⟩
                  · have v2z : ¬ (en : Int) < (b : Int) := by omega
                    have S3 : Aside (SB enc w0 blk off d1 w2) := S1
                    have HF : Hid (PermIn a b d d1 ∧ SortedIn lt' a b d1) := CT.out.fin hb HP1.out HS1.out (permIn_refl _ _ _) (RT1.out.2.2.2.2 (by omega))
                    clear RT1 CT HP1 HS1 S1
                    go_wp2
                    go_end0
                    exact ⟨rfl, _, S3.out, HF.out.1, HF.out.2⟩
                · have v1z : ¬ (mid : Int) < (en : Int) := by omega
                  have S3 : Aside (SB enc w0 blk off d1 w2) := S1
                  have HF : Hid (PermIn a b d d1 ∧ SortedIn lt' a b d1) := CT.out.fin hb HP1.out HS1.out (permIn_refl _ _ _) (RT1.out.2.2.2.2 (by omega))
                  clear RT1 CT HP1 HS1 S1
                  go_wp2
                  go_end0
                  exact ⟨rfl, _, S3.out, HF.out.1, HF.out.2⟩
            · have u1z : ¬ (a : Int) < (st : Int) := by omega
              have HP1 : Hid (PermIn a mid d1 d1) := permIn_refl _ _ _
              have HS1 : Hid (SortedIn lt' a mid d1) := CT.out.left_no (by omega)
              have RT := CT.out.right hb HP1.out
              have RT1 : Hid (SortedIn lt' mid en d1 ∧ SortedIn lt' en b d1 ∧ Agree (ltOf cf) lt' mid en b d1 ∧ d1.size = d.size ∧ (¬ (mid < en ∧ en < b) → SortedIn lt' mid b d1)) := RT
              clear RT
              by_cases v1 : mid < en
              · have v1z : (mid : Int) < (en : Int) := by omega
                by_cases v2 : en < b
                · have v2z : (en : Int) < (b : Int) := by omega
                  have C : Aside (Calls Tryd.prog 78 #[.slice (some ⟨blk, off, none⟩) d.size cap, .int .i64 mid, .int .i64 en, .int .i64 b, .func (.func g) #[] cb] w2 fun e w' => e = .returned (.tuple #[]) ∧ ∃ d'', SB enc w0 blk off d'' w' ∧ PermIn mid b d1 d'' ∧ SortedIn lt' mid b d'') := HIH.out mid en b d1 w2 (by omega) RT1.out.2.2.2.1 S1.out v1 v2 hb RT1.out.1 RT1.out.2.1 RT1.out.2.2.1
                  go_wp2_with fail
                  refine C.out.mono ?_
                  rintro e w4 ⟨rfl, d3, h3, p3, q3⟩
                  have S3 : Aside (SB enc w0 blk off d3 w4) := h3
                  have HF : Hid (PermIn a b d d3 ∧ SortedIn lt' a b d3) := CT.out.fin hb HP1.out HS1.out p3 q3
                  clear h3 p3 q3 C RT1 CT HP1 HS1 S1
                  go_wp2
                  go_end0
                  exact ⟨rfl, _, S3.out, HF.out.1, HF.out.2⟩
                · have v2z : ¬ (en : Int) < (b : Int) := by omega
                  have S3 : Aside (SB enc w0 blk off d1 w2) := S1
                  have HF : Hid (PermIn a b d d1 ∧ SortedIn lt' a b d1) := CT.out.fin hb HP1.out HS1.out (permIn_refl _ _ _) (RT1.out.2.2.2.2 (by omega))
                  clear RT1 CT HP1 HS1 S1
                  go_wp2
                  go_end0
                  exact ⟨rfl, _, S3.out, HF.out.1, HF.out.2⟩
              · have v1z : ¬ (mid : Int) < (en : Int) := by omega
                have S3 : Aside (SB enc w0 blk off d1 w2) := S1
                have HF : Hid (PermIn a b d d1 ∧ SortedIn lt' a b d1) := CT.out.fin hb HP1.out HS1.out (permIn_refl _ _ _) (RT1.out.2.2.2.2 (by omega))
                clear RT1 CT HP1 HS1 S1
                go_wp2
                go_end0
                exact ⟨rfl, _, S3.out, HF.out.1, HF.out.2⟩
          · have q2z : ¬ (m : Int) < (en : Int) := by omega
            have CT : Hid (Cut3 (ltOf cf) lt' a mid b st en d d) := CUT.out st en d (by omega) hst1 hst2 HI.out HJ.out (RotIs.same d (by omega)) (permIn_refl _ _ _)
            clear CUT HI HJ
            by_cases u1 : a < st
            · have u1z : (a : Int) < (st : Int) := by omega
              by_cases u2 : st < mid
              · have u2z : (st : Int) < (mid : Int) := by omega
                have C1 : Aside (Calls Tryd.prog 78 #[.slice (some ⟨blk, off, none⟩) d.size cap, .int .i64 a, .int .i64 st, .int .i64 mid, .func (.func g) #[] cb] wr fun e w' => e = .returned (.tuple #[]) ∧ ∃ d'', SB enc w0 blk off d'' w' ∧ PermIn a mid d d'' ∧ SortedIn lt' a mid d'') := HIH.out a st mid d wr (by omega) CT.out.size S1.out u1 u2 (by omega) CT.out.s1 CT.out.s2 CT.out.g1
                go_wp2_with fail
                refine C1.out.mono ?_
                rintro e w3 ⟨rfl, d2, h2, p2, q2⟩
                have S2 : Aside (SB enc w0 blk off d2 w3) := h2
                have HP1 : Hid (PermIn a mid d d2) := p2
                have HS1 : Hid (SortedIn lt' a mid d2) := q2
                clear h2 p2 q2 C1 S1
                have RT := CT.out.right hb HP1.out
                have RT1 : Hid (SortedIn lt' mid en d2 ∧ SortedIn lt' en b d2 ∧ Agree (ltOf cf) lt' mid en b d2 ∧ d2.size = d.size ∧ (¬ (mid < en ∧ en < b) → SortedIn lt' mid b d2)) := RT
                clear RT
                by_cases v1 : mid < en
                · have v1z : (mid : Int) < (en : Int) := by omega
                  by_cases v2 : en < b
                  · have v2z : (en : Int) < (b : Int) := by omega
                    have C : Aside (Calls Tryd.prog 78 #[.slice (some ⟨blk, off, none⟩) d.size cap, .int .i64 mid, .int .i64 en, .int .i64 b, .func (.func g) #[] cb] w3 fun e w' => e = .returned (.tuple #[]) ∧ ∃ d'', SB enc w0 blk off d'' w' ∧ PermIn mid b d2 d'' ∧ SortedIn lt' mid b d'') := HIH.out mid en b d2 w3 (by omega) RT1.out.2.2.2.1 S2.out v1 v2 hb RT1.out.1 RT1.out.2.1 RT1.out.2.2.1
                    go_wp2_with fail
                    refine C.out.mono ?_
                    rintro e w4 ⟨rfl, d3, h3, p3, q3⟩
                    have S3 : Aside (SB enc w0 blk off d3 w4) := h3
                    have HF : Hid (PermIn a b d d3 ∧ SortedIn lt' a b d3) := CT.out.fin hb HP1.out HS1.out p3 q3
                    clear h3 p3 q3 C RT1 CT HP1 HS1 S2
                    go_wp2
                    go_end0
                    exact ⟨rfl, _, S3.out, HF.out.1, HF.out.2⟩
                  · have v2z : ¬ (en : Int) < (b : Int) := by omega
                    have S3 : Aside (SB enc w0 blk off d2 w3) := S2
                    have HF : Hid (PermIn a b d d2 ∧ SortedIn lt' a b d2) := CT.out.fin hb HP1.out HS1.out (permIn_refl _ _ _) (RT1.out.2.2.2.2 (by omega))
                    clear RT1 CT HP1 HS1 S2
                    go_wp2
                    go_end0
                    exact ⟨rfl, _, S3.out, HF.out.1, HF.out.2⟩
                · have v1z : ¬ (mid : Int) < (en : Int) := by omega
                  have S3 : Aside (SB enc w0 blk off d2 w3) := S2
                  have HF : Hid (PermIn a b d d2 ∧ SortedIn lt' a b d2) := CT.out.fin hb HP1.out HS1.out (permIn_refl _ _ _) (RT1.out.2.2.2.2 (by omega))
                  clear RT1 CT HP1 HS1 S2
                  go_wp2
                  go_end0
                  exact ⟨rfl, _, S3.out, HF.out.1, HF.out.2⟩
              · have u2z : ¬ (st : Int) < (mid : Int) := by omega
                have HP1 : Hid (PermIn a mid d d) := permIn_refl _ _ _
                have HS1 : Hid (SortedIn lt' a mid d) := CT.out.left_no (by omega)
                have RT := CT.out.right hb HP1.out
                have RT1 : Hid (SortedIn lt' mid en d ∧ SortedIn lt' en b d ∧ Agree (ltOf cf) lt' mid en b d ∧ d.size = d.size ∧ (¬ (mid < en ∧ en < b) → SortedIn lt' mid b d)) := RT
                clear RT
                by_cases v1 : mid < en
                · have v1z : (mid : Int) < (en : Int) := by omega
                  by_cases v2 : en < b
                  · have v2z : (en : Int) < (b : Int) := by omega
                    have C : Aside (Calls Tryd.prog 78 #[.slice (some ⟨blk, off, none⟩) d.size cap, .int .i64 mid, .int .i64 en, .int .i64 b, .func (.func g) #[] cb] wr fun e w' => e = .returned (.tuple #[]) ∧ ∃ d'', SB enc w0 blk off d'' w' ∧ PermIn mid b d d'' ∧ SortedIn lt' mid b d'') := HIH.out mid en b d wr (by omega) RT1.out.2.2.2.1 S1.out v1 v2 hb RT1.out.1 RT1.out.2.1 RT1.out.2.2.1
                    go_wp2_with fail
                    refine C.out.mono ?_
                    rintro e w4 ⟨rfl, d3, h3, p3, q3⟩
                    have S3 : Aside (SB enc w0 blk off d3 w4) := h3
                    have HF : Hid (PermIn a b d d3 ∧ SortedIn lt' a b d3) := CT.out.fin hb HP1.out HS1.out p3 q3
                    clear h3 p3 q3 C RT1 CT HP1 HS1 S1
                    go_wp2
                    go_end0
                    exact ⟨rfl, _, S3.out, HF.out.1, HF.out.2⟩
                  · have v2z : ¬ (en : Int) < (b : Int) := by omega
                    have S3 : Aside (SB enc w0 blk off d wr) := S1
                    have HF : Hid (PermIn a b d d ∧ SortedIn lt' a b d) := CT.out.fin hb HP1.out HS1.out (permIn_refl _ _ _) (RT1.out.2.2.2.2 (by omega))
                    clear RT1 CT HP1 HS1 S1
                    go_wp2
                    go_end0
                    exact ⟨rfl, _, S3.out, HF.out.1, HF.out.2⟩
                · have v1z : ¬ (mid : Int) < (en : Int) := by omega
                  have S3 : Aside (SB enc w0 blk off d wr) := S1
                  have HF : Hid (PermIn a b d d ∧ SortedIn lt' a b d) := CT.out.fin hb HP1.out HS1.out (permIn_refl _ _ _) (RT1.out.2.2.2.2 (by omega))
                  clear RT1 CT HP1 HS1 S1
                  go_wp2
                  go_end0
                  exact ⟨rfl, _, S3.out, HF.out.1, HF.out.2⟩
            · have u1z : ¬ (a : Int) < (st : Int) := by omega
              have HP1 : Hid (PermIn a mid d d) := permIn_refl _ _ _
              have HS1 : Hid (SortedIn lt' a mid d) := CT.out.left_no (by omega)
              have RT := CT.out.right hb HP1.out
              have RT1 : Hid (SortedIn lt' mid en d ∧ SortedIn lt' en b d ∧ Agree (ltOf cf) lt' mid en b d ∧ d.size = d.size ∧ (¬ (mid < en ∧ en < b) → SortedIn lt' mid b d)) := RT
              clear RT
              by_cases v1 : mid < en
              · have v1z : (mid : Int) < (en : Int) := by omega
                by_cases v2 : en < b
                · have v2z : (en : Int) < (b : Int) := by omega
                  have C : Aside (Calls Tryd.prog 78 #[.slice (some ⟨blk, off, none⟩) d.size cap, .int .i64 mid, .int .i64 en, .int .i64 b, .func (.func g) #[] cb] wr fun e w' => e = .returned (.tuple #[]) ∧ ∃ d'', SB enc w0 blk off d'' w' ∧ PermIn mid b d d'' ∧ SortedIn lt' mid b d'') := HIH.out mid en b d wr (by omega) RT1.out.2.2.2.1 S1.out v1 v2 hb RT1.out.1 RT1.out.2.1 RT1.out.2.2.1
                  go_wp2_with fail
                  refine C.out.mono ?_
                  rintro e w4 ⟨rfl, d3, h3, p3, q3⟩
                  have S3 : Aside (SB enc w0 blk off d3 w4) := h3
                  have HF : Hid (PermIn a b d d3 ∧ SortedIn lt' a b d3) := CT.out.fin hb HP1.out HS1.out p3 q3
                  clear h3 p3 q3 C RT1 CT HP1 HS1 S1
                  go_wp2
                  go_end0
                  exact ⟨rfl, _, S3.out, HF.out.1, HF.out.2⟩
                · have v2z : ¬ (en : Int) < (b : Int) := by omega
                  have S3 : Aside (SB enc w0 blk off d wr) := S1
                  have HF : Hid (PermIn a b d d ∧ SortedIn lt' a b d) := CT.out.fin hb HP1.out HS1.out (permIn_refl _ _ _) (RT1.out.2.2.2.2 (by omega))
                  clear RT1 CT HP1 HS1 S1
                  go_wp2
                  go_end0
                  exact ⟨rfl, _, S3.out, HF.out.1, HF.out.2⟩
              · have v1z : ¬ (mid : Int) < (en : Int) := by omega
                have S3 : Aside (SB enc w0 blk off d wr) := S1
                have HF : Hid (PermIn a b d d ∧ SortedIn lt' a b d) := CT.out.fin hb HP1.out HS1.out (permIn_refl _ _ _) (RT1.out.2.2.2.2 (by omega))
                clear RT1 CT HP1 HS1 S1
                go_wp2
                go_end0
                exact ⟨rfl, _, S3.out, HF.out.1, HF.out.2⟩
        · have q1z : ¬ (st : Int) < (m : Int) := by omega
          have CT : Hid (Cut3 (ltOf cf) lt' a mid b st en d d) := CUT.out st en d (by omega) hst1 hst2 HI.out HJ.out (RotIs.same d (by omega)) (permIn_refl _ _ _)
          clear CUT HI HJ
          by_cases u1 : a < st
          · have u1z : (a : Int) < (st : Int) := by omega
            by_cases u2 : st < mid
            · have u2z : (st : Int) < (mid : Int) := by omega
              have C1 : Aside (Calls Tryd.prog 78 #[.slice (some ⟨blk, off, none⟩) d.size cap, .int .i64 a, .int .i64 st, .int .i64 mid, .func (.func g) #[] cb] wr fun e w' => e = .returned (.tuple #[]) ∧ ∃ d'', SB enc w0 blk off d'' w' ∧ PermIn a mid d d'' ∧ SortedIn lt' a mid d'') := HIH.out a st mid d wr (by omega) CT.out.size S1.out u1 u2 (by omega) CT.out.s1 CT.out.s2 CT.out.g1
              go_wp2_with fail
              refine C1.out.mono ?_
              rintro e w3 ⟨rfl, d2, h2, p2, q2⟩
              have S2 : Aside (SB enc w0 blk off d2 w3) := h2
              have HP1 : Hid (PermIn a mid d d2) := p2
              have HS1 : Hid (SortedIn lt' a mid d2) := q2
              clear h2 p2 q2 C1 S1
              have RT := CT.out.right hb HP1.out
              have RT1 : Hid (SortedIn lt' mid en d2 ∧ SortedIn lt' en b d2 ∧ Agree (ltOf cf) lt' mid en b d2 ∧ d2.size = d.size ∧ (¬ (mid < en ∧ en < b) → SortedIn lt' mid b d2)) := RT
              clear RT
              by_cases v1 : mid < en
              · have v1z : (mid : Int) < (en : Int) := by omega
                by_cases v2 : en < b
                · have v2z : (en : Int) < (b : Int) := by omega
                  have C : Aside (Calls Tryd.prog 78 #[.slice (some ⟨blk, off, none⟩) d.size cap, .int .i64 mid, .int .i64 en, .int .i64 b, .func (.func g) #[] cb] w3 fun e w' => e = .returned (.tuple #[]) ∧ ∃ d'', SB enc w0 blk off d'' w' ∧ PermIn mid b d2 d'' ∧ SortedIn lt' mid b d'') := HIH.out mid en b d2 w3 (by omega) RT1.out.2.2.2.1 S2.out v1 v2 hb RT1.out.1 RT1.out.2.1 RT1.out.2.2.1
                  go_wp2_with fail
                  refine C.out.mono ?_
                  rintro e w4 ⟨rfl, d3, h3, p3, q3⟩
                  have S3 : Aside (SB enc w0 blk off d3 w4) := h3
                  have HF : Hid (PermIn a b d d3 ∧ SortedIn lt' a b d3) := CT.out.fin hb HP1.out HS1.out p3 q3
                  clear h3 p3 q3 C RT1 CT HP1 HS1 S2
                  go_wp2
                  go_end0
                  exact ⟨rfl, _, S3.out, HF.out.1, HF.out.2⟩
                · have v2z : ¬ (en : Int) < (b : Int) := by omega
                  have S3 : Aside (SB enc w0 blk off d2 w3) := S2
                  have HF : Hid (PermIn a b d d2 ∧ SortedIn lt' a b d2) := CT.out.fin hb HP1.out HS1.out (permIn_refl _ _ _) (RT1.out.2.2.2.2 (by omega))
                  clear RT1 CT HP1 HS1 S2
                  go_wp2
                  go_end0
                  exact ⟨rfl, _, S3.out, HF.out.1, HF.out.2⟩
              · have v1z : ¬ (mid : Int) < (en : Int) := by omega
                have S3 : Aside (SB enc w0 blk off d2 w3) := S2
                have HF : Hid (PermIn a b d d2 ∧ SortedIn lt' a b d2) := CT.out.fin hb HP1.out HS1.out (permIn_refl _ _ _) (RT1.out.2.2.2.2 (by omega))
                clear RT1 CT HP1 HS1 S2
                go_wp2
                go_end0
                exact ⟨rfl, _, S3.out, HF.out.1, HF.out.2⟩
            · have u2z : ¬ (st : Int) < (mid : Int) := by omega
              have HP1 : Hid (PermIn a mid d d) := permIn_refl _ _ _
              have HS1 : Hid (SortedIn lt' a mid d) := CT.out.left_no (by omega)
              have RT := CT.out.right hb HP1.out
              have RT1 : Hid (SortedIn lt' mid en d ∧ SortedIn lt' en b d ∧ Agree (ltOf cf) lt' mid en b d ∧ d.size = d.size ∧ (¬ (mid < en ∧ en < b) → SortedIn lt' mid b d)) := RT
              clear RT
              by_cases v1 : mid < en
              · have v1z : (mid : Int) < (en : Int) := by omega
                by_cases v2 : en < b
                · have v2z : (en : Int) < (b : Int) := by omega
                  have C : Aside (Calls Tryd.prog 78 #[.slice (some ⟨blk, off, none⟩) d.size cap, .int .i64 mid, .int .i64 en, .int .i64 b, .func (.func g) #[] cb] wr fun e w' => e = .returned (.tuple #[]) ∧ ∃ d'', SB enc w0 blk off d'' w' ∧ PermIn mid b d d'' ∧ SortedIn lt' mid b d'') := HIH.out mid en b d wr (by omega) RT1.out.2.2.2.1 S1.out v1 v2 hb RT1.out.1 RT1.out.2.1 RT1.out.2.2.1
                  go_wp2_with fail
                  refine C.out.mono ?_
                  rintro e w4 ⟨rfl, d3, h3, p3, q3⟩
                  have S3 : Aside (SB enc w0 blk off d3 w4) := h3
                  have HF : Hid (PermIn a b d d3 ∧ SortedIn lt' a b d3) := CT.out.fin hb HP1.out HS1.out p3 q3
                  clear h3 p3 q3 C RT1 CT HP1 HS1 S1
                  go_wp2
                  go_end0
                  exact ⟨rfl, _, S3.out, HF.out.1, HF.out.2⟩
                · have v2z : ¬ (en : Int) < (b : Int) := by omega
                  have S3 : Aside (SB enc w0 blk off d wr) := S1
                  have HF : Hid (PermIn a b d d ∧ SortedIn lt' a b d) := CT.out.fin hb HP1.out HS1.out (permIn_refl _ _ _) (RT1.out.2.2.2.2 (by omega))
                  clear RT1 CT HP1 HS1 S1
                  go_wp2
                  go_end0
                  exact ⟨rfl, _, S3.out, HF.out.1, HF.out.2⟩
              · have v1z : ¬ (mid : Int) < (en : Int) := by omega
                have S3 : Aside (SB enc w0 blk off d wr) := S1
                have HF : Hid (PermIn a b d d ∧ SortedIn lt' a b d) := CT.out.fin hb HP1.out HS1.out (permIn_refl _ _ _) (RT1.out.2.2.2.2 (by omega))
                clear RT1 CT HP1 HS1 S1
                go_wp2
                go_end0
                exact ⟨rfl, _, S3.out, HF.out.1, HF.out.2⟩
          · have u1z : ¬ (a : Int) < (st : Int) := by omega
            have HP1 : Hid (PermIn a mid d d) := permIn_refl _ _ _
            have HS1 : Hid (SortedIn lt' a mid d) := CT.out.left_no (by omega)
            have RT := CT.out.right hb HP1.out
            have RT1 : Hid (SortedIn lt' mid en d ∧ SortedIn lt' en b d ∧ Agree (ltOf cf) lt' mid en b d ∧ d.size = d.size ∧ (¬ (mid < en ∧ en < b) → SortedIn lt' mid b d)) := RT
            clear RT
            by_cases v1 : mid < en
            · have v1z : (mid : Int) < (en : Int) := by omega
              by_cases v2 : en < b
              · have v2z : (en : Int) < (b : Int) := by omega
                have C : Aside (Calls Tryd.prog 78 #[.slice (some ⟨blk, off, none⟩) d.size cap, .int .i64 mid, .int .i64 en, .int .i64 b, .func (.func g) #[] cb] wr fun e w' => e = .returned (.tuple #[]) ∧ ∃ d'', SB enc w0 blk off d'' w' ∧ PermIn mid b d d'' ∧ SortedIn lt' mid b d'') := HIH.out mid en b d wr (by omega) RT1.out.2.2.2.1 S1.out v1 v2 hb RT1.out.1 RT1.out.2.1 RT1.out.2.2.1
                go_wp2_with fail
                refine C.out.mono ?_
                rintro e w4 ⟨rfl, d3, h3, p3, q3⟩
                have S3 : Aside (SB enc w0 blk off d3 w4) := h3
                have HF : Hid (PermIn a b d d3 ∧ SortedIn lt' a b d3) := CT.out.fin hb HP1.out HS1.out p3 q3
                clear h3 p3 q3 C RT1 CT HP1 HS1 S1
                go_wp2
                go_end0
                exact ⟨rfl, _, S3.out, HF.out.1, HF.out.2⟩
              · have v2z : ¬ (en : Int) < (b : Int) := by omega
                have S3 : Aside (SB enc w0 blk off d wr) := S1
                have HF : Hid (PermIn a b d d ∧ SortedIn lt' a b d) := CT.out.fin hb HP1.out HS1.out (permIn_refl _ _ _) (RT1.out.2.2.2.2 (by omega))
                clear RT1 CT HP1 HS1 S1
                go_wp2
                go_end0
                exact ⟨rfl, _, S3.out, HF.out.1, HF.out.2⟩
            · have v1z : ¬ (mid : Int) < (en : Int) := by omega
              have S3 : Aside (SB enc w0 blk off d wr) := S1
              have HF : Hid (PermIn a b d d ∧ SortedIn lt' a b d) := CT.out.fin hb HP1.out HS1.out (permIn_refl _ _ _) (RT1.out.2.2.2.2 (by omega))
              clear RT1 CT HP1 HS1 S1
              go_wp2
              go_end0
              exact ⟨rfl, _, S3.out, HF.out.1, HF.out.2⟩
  · have HE : Hid (s0 = a ∧ r0 = m) := ⟨hse, hre⟩
    clear hse hre HX
    go_wp2
    go_loopg [20, 21] (r0 - s0) (fun kx s20 s21 wr => ∃ (st r : Nat), s20 = .int .i64 st ∧ s21 = .int .i64 r ∧ s0 ≤ st ∧ st ≤ r ∧ r ≤ r0 ∧ r - st ≤ kx ∧ Aside (SB enc w0 blk off d wr) ∧ Hid (st = s0 ∨ ltOf cf d[n - st]! d[st - 1]! = false) ∧ Hid (r = r0 ∨ ltOf cf d[n - 1 - r]! d[r]! = true))
    case atStart =>
      have e1 : a = s0 := HE.out.1.symm
      have e2 : m = r0 := HE.out.2.symm
      exact ⟨a, m, rfl, rfl, by omega, by omega, by omega, by omega, S0, .inl e1, .inl e2⟩
    case round =>
      clear S0
      obtain ⟨st, r, rfl, rfl, hst1, hstr, hrr, hkx, S1, HI, HJ⟩ := hrel
      by_cases hlt : st < r
      · have hltz : (st : Int) < (r : Int) := by omega
        obtain ⟨c, hc⟩ : ∃ x, x = (st + r) / 2 := ⟨_, rfl⟩
        have ecz : ((st : Int) + (r : Int)) / 2 = (c : Int) := by omega
        obtain ⟨ix, hq⟩ : ∃ x, x = n - 1 - c := ⟨_, rfl⟩
        have eqz : (n : Int) - 1 - (c : Int) = (ix : Int) := by omega
        have hc1 : st ≤ c := by omega
        have hc2 : c < r := by omega
        have hqd : ix < d.size := by omega
        have HQ : Hid (ix = n - 1 - c) := hq
        clear hc hq
        cases hlv : ltOf cf d[ix]! d[c]! with
        | false =>
          go_wp2_with fail
          obtain ⟨iN1, hiN1⟩ : ∃ q, q = ix := ⟨_, rfl⟩
          obtain ⟨jN1, hjN1⟩ : ∃ q, q = c := ⟨_, rfl⟩
          have ea1 : ((ix : Int)).toNat = iN1 := by omega
          have pa1 : (0 : Int) ≤ (ix : Int) := by omega
          have ba1 : (ix : Int) < (d.size : Int) := by omega
          have ra1 : IntKind.i64.wrap ((ix : Int)) = (ix : Int) := by rw [IntKind.wrap_i64]; omega
          have ec1 : ((c : Int)).toNat = jN1 := by omega
          have pc1 : (0 : Int) ≤ (c : Int) := by omega
          have bc1 : (c : Int) < (d.size : Int) := by omega
          have rc1 : IntKind.i64.wrap ((c : Int)) = (c : Int) := by rw [IntKind.wrap_i64]; omega
          obtain ⟨x1, hx1⟩ : ∃ x, x = d[ix]! := ⟨_, rfl⟩
          obtain ⟨y1, hy1⟩ : ∃ x, x = d[c]! := ⟨_, rfl⟩
          have l1a := S1.out.cl R (by omega) (ix) (by omega)
          have l1b := S1.out.cl R (by omega) (c) (by omega)
          rw [← hx1, ← hiN1] at l1a
          rw [← hy1, ← hjN1] at l1b
          have hc1 := S1.out.cmp HC.out (by omega) x1 y1
          have hv1 : ¬ cf x1 y1 < 0 := by rw [hx1, hy1]; exact of_decide_eq_false hlv
          have hd1 : decide (cf x1 y1 < 0) = false := decide_eq_false hv1
          clear hx1 hy1 hiN1 hjN1
          go_wp2_with fail
          have inhL := laterInh
          refine wp_region_laterS mixedOnS (by kernel_rfl) ?_
          repeat (go_big_quiet_step (first | (go_at_fn g; exact calls_laterS (hc1 _))))
          refine wpQuiet_nil ?_
          intro w2 hw'
          obtain ⟨⟨wq, hwq⟩, hw''⟩ := hw'
          subst hw''
          have S2 : Aside (SB enc w0 blk off d w2) := S1.out.below hwq
          clear l1a l1b hc1 S1 hwq
          clear ea1 ec1
          go_wp2_with fail
          go_roundg (r - (c + 1))
          case measure => omega
          case rel => exact ⟨c + 1, r, by go_num, rfl, by omega, by omega, hrr, by omega, S2, .inr (by rw [Nat.add_sub_cancel, show n - (c + 1) = ix by rw [HQ.out]; omega]; exact hlv), HJ⟩
        | true =>
          go_wp2_with fail
          obtain ⟨iN2, hiN2⟩ : ∃ q, q = ix := ⟨_, rfl⟩
          obtain ⟨jN2, hjN2⟩ : ∃ q, q = c := ⟨_, rfl⟩
          have ea2 : ((ix : Int)).toNat = iN2 := by omega
          have pa2 : (0 : Int) ≤ (ix : Int) := by omega
          have ba2 : (ix : Int) < (d.size : Int) := by omega
          have ra2 : IntKind.i64.wrap ((ix : Int)) = (ix : Int) := by rw [IntKind.wrap_i64]; omega
          have ec2 : ((c : Int)).toNat = jN2 := by omega
          have pc2 : (0 : Int) ≤ (c : Int) := by omega
          have bc2 : (c : Int) < (d.size : Int) := by omega
          have rc2 : IntKind.i64.wrap ((c : Int)) = (c : Int) := by rw [IntKind.wrap_i64]; omega
          obtain ⟨x2, hx2⟩ : ∃ x, x = d[ix]! := ⟨_, rfl⟩
          obtain ⟨y2, hy2⟩ : ∃ x, x = d[c]! := ⟨_, rfl⟩
          have l2a := S1.out.cl R (by omega) (ix) (by omega)
          have l2b := S1.out.cl R (by omega) (c) (by omega)
          rw [← hx2, ← hiN2] at l2a
          rw [← hy2, ← hjN2] at l2b
          have hc2 := S1.out.cmp HC.out (by omega) x2 y2
          have hv2 : cf x2 y2 < 0 := by rw [hx2, hy2]; exact of_decide_eq_true hlv
          have hd2 : decide (cf x2 y2 < 0) = true := decide_eq_true hv2
          clear hx2 hy2 hiN2 hjN2
          go_wp2_with fail
          have inhL := laterInh
          refine wp_region_laterS mixedOnS (by kernel_rfl) ?_
          repeat (go_big_quiet_step (first | (go_at_fn g; exact calls_laterS (hc2 _))))
          refine wpQuiet_nil ?_
          intro w2 hw'
          obtain ⟨⟨wq, hwq⟩, hw''⟩ := hw'
          subst hw''
          have S2 : Aside (SB enc w0 blk off d w2) := S1.out.below hwq
          clear l2a l2b hc2 S1 hwq
          clear ea2 ec2
          go_wp2_with fail
          go_roundg (c - st)
          case measure => omega
          case rel => exact ⟨st, c, rfl, rfl, hst1, by omega, by omega, by omega, S2, HI, .inr (by rw [← HQ.out]; exact hlv)⟩
      · obtain rfl : st = r := by omega
        have hltz : ¬ (st : Int) < (st : Int) := by omega
        have hst2 : st ≤ r0 := hrr
        obtain ⟨en, hen⟩ : ∃ q, q = n - st := ⟨_, rfl⟩
        have een : (n : Int) - (st : Int) = (en : Int) := by omega
        have hen2 : en + st = n := by omega
        have hen3 : m ≤ en ∧ mid ≤ en ∧ en ≤ b ∧ st ≤ mid ∧ st ≤ m ∧ a ≤ st := by have := HN.out; omega
        obtain ⟨hx1, hx2, hx3, hx4, hx5, hx6⟩ := hen3
        clear hen HC
        by_cases q1 : st < m
        · have q1z : (st : Int) < (m : Int) := by omega
          by_cases q2 : m < en
          · have q2z : (m : Int) < (en : Int) := by omega
            have CRR : Aside (Calls Tryd.prog 91 #[.slice (some ⟨blk, off, none⟩) d.size cap, .int .i64 st, .int .i64 m, .int .i64 en, .func (.func g) #[] cb] wr fun e w' => e = .returned (.tuple #[]) ∧ SB enc w0 blk off (rotLoop m (en - st) (m - st) (en - m) d) w') := CR.out st en wr S1.out q1 q2 (by omega)
            obtain ⟨ro1, ro2⟩ := rot_of (a := a) (b := b) d q1 q2 hx6 hx3 hb
            have CT : Hid (Cut3 (ltOf cf) lt' a mid b st en d (rotLoop m (en - st) (m - st) (en - m) d)) := CUT.out st en _ hen2 hst1 hst2 HI.out HJ.out ro1 ro2
            generalize rotLoop m (en - st) (m - st) (en - m) d = d1 at CRR CT
            clear ro1 ro2 CUT HI HJ CR S1 hen2
            go_wp2_with fail
            refine CRR.out.mono ?_
            rintro e w2 ⟨rfl, h1⟩
            have S1 : Aside (SB enc w0 blk off d1 w2) := h1
            clear h1 CRR
            by_cases u1 : a < st
            · have u1z : (a : Int) < (st : Int) := by omega
              by_cases u2 : st < mid
              · have u2z : (st : Int) < (mid : Int) := by omega
                have C1 : Aside (Calls Tryd.prog 78 #[.slice (some ⟨blk, off, none⟩) d.size cap, .int .i64 a, .int .i64 st, .int .i64 mid, .func (.func g) #[] cb] w2 fun e w' => e = .returned (.tuple #[]) ∧ ∃ d'', SB enc w0 blk off d'' w' ∧ PermIn a mid d1 d'' ∧ SortedIn lt' a mid d'') := HIH.out a st mid d1 w2 (by omega) CT.out.size S1.out u1 u2 (by omega) CT.out.s1 CT.out.s2 CT.out.g1
                go_wp2_with fail
                refine C1.out.mono ?_
                rintro e w3 ⟨rfl, d2, h2, p2, q2⟩
                have S2 : Aside (SB enc w0 blk off d2 w3) := h2
                have HP1 : Hid (PermIn a mid d1 d2) := p2
                have HS1 : Hid (SortedIn lt' a mid d2) := q2
                clear h2 p2 q2 C1 S1
                have RT := CT.out.right hb HP1.out
                have RT1 : Hid (SortedIn lt' mid en d2 ∧ SortedIn lt' en b d2 ∧ Agree (ltOf cf) lt' mid en b d2 ∧ d2.size = d.size ∧ (¬ (mid < en ∧ en < b) → SortedIn lt' mid b d2)) := RT
                clear RT
                by_cases v1 : mid < en
                · have v1z : (mid : Int) < (en : Int) := by omega
                  by_cases v2 : en < b
                  · have v2z : (en : Int) < (b : Int) := by omega
                    have C : Aside (Calls Tryd.prog 78 #[.slice (some ⟨blk, off, none⟩) d.size cap, .int .i64 mid, .int .i64 en, .int .i64 b, .func (.func g) #[] cb] w3 fun e w' => e = .returned (.tuple #[]) ∧ ∃ d'', SB enc w0 blk off d'' w' ∧ PermIn mid b d2 d'' ∧ SortedIn lt' mid b d'') := HIH.out mid en b d2 w3 (by omega) RT1.out.2.2.2.1 S2.out v1 v2 hb RT1.out.1 RT1.out.2.1 RT1.out.2.2.1
                    go_wp2_with fail
                    refine C.out.mono ?_
                    rintro e w4 ⟨rfl, d3, h3, p3, q3⟩
                    have S3 : Aside (SB enc w0 blk off d3 w4) := h3
                    have HF : Hid (PermIn a b d d3 ∧ SortedIn lt' a b d3) := CT.out.fin hb HP1.out HS1.out p3 q3
                    clear h3 p3 q3 C RT1 CT HP1 HS1 S2
                    go_wp2
                    go_end0
                    exact ⟨rfl, _, S3.out, HF.out.1, HF.out.2⟩
                  · have v2z : ¬ (en : Int) < (b : Int) := by omega
                    have S3 : Aside (SB enc w0 blk off d2 w3) := S2
                    have HF : Hid (PermIn a b d d2 ∧ SortedIn lt' a b d2) := CT.out.fin hb HP1.out HS1.out (permIn_refl _ _ _) (RT1.out.2.2.2.2 (by omega))
                    clear RT1 CT HP1 HS1 S2
                    go_wp2
                    go_end0
                    exact ⟨rfl, _, S3.out, HF.out.1, HF.out.2⟩
                · have v1z : ¬ (mid : Int) < (en : Int) := by omega
                  have S3 : Aside (SB enc w0 blk off d2 w3) := S2
                  have HF : Hid (PermIn a b d d2 ∧ SortedIn lt' a b d2) := CT.out.fin hb HP1.out HS1.out (permIn_refl _ _ _) (RT1.out.2.2.2.2 (by omega))
                  clear RT1 CT HP1 HS1 S2
                  go_wp2
                  go_end0
                  exact ⟨rfl, _, S3.out, HF.out.1, HF.out.2⟩
              · have u2z : ¬ (st : Int) < (mid : Int) := by omega
                have HP1 : Hid (PermIn a mid d1 d1) := permIn_refl _ _ _
                have HS1 : Hid (SortedIn lt' a mid d1) := CT.out.left_no (by omega)
                have RT := CT.out.right hb HP1.out
                have RT1 : Hid (SortedIn lt' mid en d1 ∧ SortedIn lt' en b d1 ∧ Agree (ltOf cf) lt' mid en b d1 ∧ d1.size = d.size ∧ (¬ (mid < en ∧ en < b) → SortedIn lt' mid b d1)) := RT
                clear RT
                by_cases v1 : mid < en
                · have v1z : (mid : Int) < (en : Int) := by omega
                  by_cases v2 : en < b
                  · have v2z : (en : Int) < (b : Int) := by omega
                    have C : Aside (Calls Tryd.prog 78 #[.slice (some ⟨blk, off, none⟩) d.size cap, .int .i64 mid, .int .i64 en, .int .i64 b, .func (.func g) #[] cb] w2 fun e w' => e = .returned (.tuple #[]) ∧ ∃ d'', SB enc w0 blk off d'' w' ∧ PermIn mid b d1 d'' ∧ SortedIn lt' mid b d'') := HIH.out mid en b d1 w2 (by omega) RT1.out.2.2.2.1 S1.out v1 v2 hb RT1.out.1 RT1.out.2.1 RT1.out.2.2.1
                    go_wp2_with fail
                    refine C.out.mono ?_
                    rintro e w4 ⟨rfl, d3, h3, p3, q3⟩
                    have S3 : Aside (SB enc w0 blk off d3 w4) := h3
                    have HF : Hid (PermIn a b d d3 ∧ SortedIn lt' a b d3) := CT.out.fin hb HP1.out HS1.out p3 q3
                    clear h3 p3 q3 C RT1 CT HP1 HS1 S1
                    go_wp2
                    go_end0
                    exact ⟨rfl, _, S3.out, HF.out.1, HF.out.2⟩
                  · have v2z : ¬ (en : Int) < (b : Int) := by omega
                    have S3 : Aside (SB enc w0 blk off d1 w2) := S1
                    have HF : Hid (PermIn a b d d1 ∧ SortedIn lt' a b d1) := CT.out.fin hb HP1.out HS1.out (permIn_refl _ _ _) (RT1.out.2.2.2.2 (by omega))
                    clear RT1 CT HP1 HS1 S1
                    go_wp2
                    go_end0
                    exact ⟨rfl, _, S3.out, HF.out.1, HF.out.2⟩
                · have v1z : ¬ (mid : Int) < (en : Int) := by omega
                  have S3 : Aside (SB enc w0 blk off d1 w2) := S1
                  have HF : Hid (PermIn a b d d1 ∧ SortedIn lt' a b d1) := CT.out.fin hb HP1.out HS1.out (permIn_refl _ _ _) (RT1.out.2.2.2.2 (by omega))
                  clear RT1 CT HP1 HS1 S1
                  go_wp2
                  go_end0
                  exact ⟨rfl, _, S3.out, HF.out.1, HF.out.2⟩
            · have u1z : ¬ (a : Int) < (st : Int) := by omega
              have HP1 : Hid (PermIn a mid d1 d1) := permIn_refl _ _ _
              have HS1 : Hid (SortedIn lt' a mid d1) := CT.out.left_no (by omega)
              have RT := CT.out.right hb HP1.out
              have RT1 : Hid (SortedIn lt' mid en d1 ∧ SortedIn lt' en b d1 ∧ Agree (ltOf cf) lt' mid en b d1 ∧ d1.size = d.size ∧ (¬ (mid < en ∧ en < b) → SortedIn lt' mid b d1)) := RT
              clear RT
              by_cases v1 : mid < en
              · have v1z : (mid : Int) < (en : Int) := by omega
                by_cases v2 : en < b
                · have v2z : (en : Int) < (b : Int) := by omega
                  have C : Aside (Calls Tryd.prog 78 #[.slice (some ⟨blk, off, none⟩) d.size cap, .int .i64 mid, .int .i64 en, .int .i64 b, .func (.func g) #[] cb] w2 fun e w' => e = .returned (.tuple #[]) ∧ ∃ d'', SB enc w0 blk off d'' w' ∧ PermIn mid b d1 d'' ∧ SortedIn lt' mid b d'') := HIH.out mid en b d1 w2 (by omega) RT1.out.2.2.2.1 S1.out v1 v2 hb RT1.out.1 RT1.out.2.1 RT1.out.2.2.1
                  go_wp2_with fail
                  refine C.out.mono ?_
                  rintro e w4 ⟨rfl, d3, h3, p3, q3⟩
                  have S3 : Aside (SB enc w0 blk off d3 w4) := h3
                  have HF : Hid (PermIn a b d d3 ∧ SortedIn lt' a b d3) := CT.out.fin hb HP1.out HS1.out p3 q3
                  clear h3 p3 q3 C RT1 CT HP1 HS1 S1
                  go_wp2
                  go_end0
                  exact ⟨rfl, _, S3.out, HF.out.1, HF.out.2⟩
                · have v2z : ¬ (en : Int) < (b : Int) := by omega
                  have S3 : Aside (SB enc w0 blk off d1 w2) := S1
                  have HF : Hid (PermIn a b d d1 ∧ SortedIn lt' a b d1) := CT.out.fin hb HP1.out HS1.out (permIn_refl _ _ _) (RT1.out.2.2.2.2 (by omega))
                  clear RT1 CT HP1 HS1 S1
                  go_wp2
                  go_end0
                  exact ⟨rfl, _, S3.out, HF.out.1, HF.out.2⟩
              · have v1z : ¬ (mid : Int) < (en : Int) := by omega
                have S3 : Aside (SB enc w0 blk off d1 w2) := S1
                have HF : Hid (PermIn a b d d1 ∧ SortedIn lt' a b d1) := CT.out.fin hb HP1.out HS1.out (permIn_refl _ _ _) (RT1.out.2.2.2.2 (by omega))
                clear RT1 CT HP1 HS1 S1
                go_wp2
                go_end0
                exact ⟨rfl, _, S3.out, HF.out.1, HF.out.2⟩
          · have q2z : ¬ (m : Int) < (en : Int) := by omega
            have CT : Hid (Cut3 (ltOf cf) lt' a mid b st en d d) := CUT.out st en d (by omega) hst1 hst2 HI.out HJ.out (RotIs.same d (by omega)) (permIn_refl _ _ _)
            clear CUT HI HJ
            by_cases u1 : a < st
            · have u1z : (a : Int) < (st : Int) := by omega
              by_cases u2 : st < mid
              · have u2z : (st : Int) < (mid : Int) := by omega
                have C1 : Aside (Calls Tryd.prog 78 #[.slice (some ⟨blk, off, none⟩) d.size cap, .int .i64 a, .int .i64 st, .int .i64 mid, .func (.func g) #[] cb] wr fun e w' => e = .returned (.tuple #[]) ∧ ∃ d'', SB enc w0 blk off d'' w' ∧ PermIn a mid d d'' ∧ SortedIn lt' a mid d'') := HIH.out a st mid d wr (by omega) CT.out.size S1.out u1 u2 (by omega) CT.out.s1 CT.out.s2 CT.out.g1
                go_wp2_with fail
                refine C1.out.mono ?_
                rintro e w3 ⟨rfl, d2, h2, p2, q2⟩
                have S2 : Aside (SB enc w0 blk off d2 w3) := h2
                have HP1 : Hid (PermIn a mid d d2) := p2
                have HS1 : Hid (SortedIn lt' a mid d2) := q2
                clear h2 p2 q2 C1 S1
                have RT := CT.out.right hb HP1.out
                have RT1 : Hid (SortedIn lt' mid en d2 ∧ SortedIn lt' en b d2 ∧ Agree (ltOf cf) lt' mid en b d2 ∧ d2.size = d.size ∧ (¬ (mid < en ∧ en < b) → SortedIn lt' mid b d2)) := RT
                clear RT
                by_cases v1 : mid < en
                · have v1z : (mid : Int) < (en : Int) := by omega
                  by_cases v2 : en < b
                  · have v2z : (en : Int) < (b : Int) := by omega
                    have C : Aside (Calls Tryd.prog 78 #[.slice (some ⟨blk, off, none⟩) d.size cap, .int .i64 mid, .int .i64 en, .int .i64 b, .func (.func g) #[] cb] w3 fun e w' => e = .returned (.tuple #[]) ∧ ∃ d'', SB enc w0 blk off d'' w' ∧ PermIn mid b d2 d'' ∧ SortedIn lt' mid b d'') := HIH.out mid en b d2 w3 (by omega) RT1.out.2.2.2.1 S2.out v1 v2 hb RT1.out.1 RT1.out.2.1 RT1.out.2.2.1
                    go_wp2_with fail
                    refine C.out.mono ?_
                    rintro e w4 ⟨rfl, d3, h3, p3, q3⟩
                    have S3 : Aside (SB enc w0 blk off d3 w4) := h3
                    have HF : Hid (PermIn a b d d3 ∧ SortedIn lt' a b d3) := CT.out.fin hb HP1.out HS1.out p3 q3
                    clear h3 p3 q3 C RT1 CT HP1 HS1 S2
                    go_wp2
                    go_end0
                    exact ⟨rfl, _, S3.out, HF.out.1, HF.out.2⟩
                  · have v2z : ¬ (en : Int) < (b : Int) := by omega
                    have S3 : Aside (SB enc w0 blk off d2 w3) := S2
                    have HF : Hid (PermIn a b d d2 ∧ SortedIn lt' a b d2) := CT.out.fin hb HP1.out HS1.out (permIn_refl _ _ _) (RT1.out.2.2.2.2 (by omega))
                    clear RT1 CT HP1 HS1 S2
                    go_wp2
                    go_end0
                    exact ⟨rfl, _, S3.out, HF.out.1, HF.out.2⟩
                · have v1z : ¬ (mid : Int) < (en : Int) := by omega
                  have S3 : Aside (SB enc w0 blk off d2 w3) := S2
                  have HF : Hid (PermIn a b d d2 ∧ SortedIn lt' a b d2) := CT.out.fin hb HP1.out HS1.out (permIn_refl _ _ _) (RT1.out.2.2.2.2 (by omega))
                  clear RT1 CT HP1 HS1 S2
                  go_wp2
                  go_end0
                  exact ⟨rfl, _, S3.out, HF.out.1, HF.out.2⟩
              · have u2z : ¬ (st : Int) < (mid : Int) := by omega
                have HP1 : Hid (PermIn a mid d d) := permIn_refl _ _ _
                have HS1 : Hid (SortedIn lt' a mid d) := CT.out.left_no (by omega)
                have RT := CT.out.right hb HP1.out
                have RT1 : Hid (SortedIn lt' mid en d ∧ SortedIn lt' en b d ∧ Agree (ltOf cf) lt' mid en b d ∧ d.size = d.size ∧ (¬ (mid < en ∧ en < b) → SortedIn lt' mid b d)) := RT
                clear RT
                by_cases v1 : mid < en
                · have v1z : (mid : Int) < (en : Int) := by omega
                  by_cases v2 : en < b
                  · have v2z : (en : Int) < (b : Int) := by omega
                    have C : Aside (Calls Tryd.prog 78 #[.slice (some ⟨blk, off, none⟩) d.size cap, .int .i64 mid, .int .i64 en, .int .i64 b, .func (.func g) #[] cb] wr fun e w' => e = .returned (.tuple #[]) ∧ ∃ d'', SB enc w0 blk off d'' w' ∧ PermIn mid b d d'' ∧ SortedIn lt' mid b d'') := HIH.out mid en b d wr (by omega) RT1.out.2.2.2.1 S1.out v1 v2 hb RT1.out.1 RT1.out.2.1 RT1.out.2.2.1
                    go_wp2_with fail
                    refine C.out.mono ?_
                    rintro e w4 ⟨rfl, d3, h3, p3, q3⟩
                    have S3 : Aside (SB enc w0 blk off d3 w4) := h3
                    have HF : Hid (PermIn a b d d3 ∧ SortedIn lt' a b d3) := CT.out.fin hb HP1.out HS1.out p3 q3
                    clear h3 p3 q3 C RT1 CT HP1 HS1 S1
                    go_wp2
                    go_end0
                    exact ⟨rfl, _, S3.out, HF.out.1, HF.out.2⟩
                  · have v2z : ¬ (en : Int) < (b : Int) := by omega
                    have S3 : Aside (SB enc w0 blk off d wr) := S1
                    have HF : Hid (PermIn a b d d ∧ SortedIn lt' a b d) := CT.out.fin hb HP1.out HS1.out (permIn_refl _ _ _) (RT1.out.2.2.2.2 (by omega))
                    clear RT1 CT HP1 HS1 S1
                    go_wp2
                    go_end0
                    exact ⟨rfl, _, S3.out, HF.out.1, HF.out.2⟩
                · have v1z : ¬ (mid : Int) < (en : Int) := by omega
                  have S3 : Aside (SB enc w0 blk off d wr) := S1
                  have HF : Hid (PermIn a b d d ∧ SortedIn lt' a b d) := CT.out.fin hb HP1.out HS1.out (permIn_refl _ _ _) (RT1.out.2.2.2.2 (by omega))
                  clear RT1 CT HP1 HS1 S1
                  go_wp2
                  go_end0
                  exact ⟨rfl, _, S3.out, HF.out.1, HF.out.2⟩
            · have u1z : ¬ (a : Int) < (st : Int) := by omega
              have HP1 : Hid (PermIn a mid d d) := permIn_refl _ _ _
              have HS1 : Hid (SortedIn lt' a mid d) := CT.out.left_no (by omega)
              have RT := CT.out.right hb HP1.out
              have RT1 : Hid (SortedIn lt' mid en d ∧ SortedIn lt' en b d ∧ Agree (ltOf cf) lt' mid en b d ∧ d.size = d.size ∧ (¬ (mid < en ∧ en < b) → SortedIn lt' mid b d)) := RT
              clear RT
              by_cases v1 : mid < en
              · have v1z : (mid : Int) < (en : Int) := by omega
                by_cases v2 : en < b
                · have v2z : (en : Int) < (b : Int) := by omega
                  have C : Aside (Calls Tryd.prog 78 #[.slice (some ⟨blk, off, none⟩) d.size cap, .int .i64 mid, .int .i64 en, .int .i64 b, .func (.func g) #[] cb] wr fun e w' => e = .returned (.tuple #[]) ∧ ∃ d'', SB enc w0 blk off d'' w' ∧ PermIn mid b d d'' ∧ SortedIn lt' mid b d'') := HIH.out mid en b d wr (by omega) RT1.out.2.2.2.1 S1.out v1 v2 hb RT1.out.1 RT1.out.2.1 RT1.out.2.2.1
                  go_wp2_with fail
                  refine C.out.mono ?_
                  rintro e w4 ⟨rfl, d3, h3, p3, q3⟩
                  have S3 : Aside (SB enc w0 blk off d3 w4) := h3
                  have HF : Hid (PermIn a b d d3 ∧ SortedIn lt' a b d3) := CT.out.fin hb HP1.out HS1.out p3 q3
                  clear h3 p3 q3 C RT1 CT HP1 HS1 S1
                  go_wp2
                  go_end0
                  exact ⟨rfl, _, S3.out, HF.out.1, HF.out.2⟩
                · have v2z : ¬ (en : Int) < (b : Int) := by omega
                  have S3 : Aside (SB enc w0 blk off d wr) := S1
                  have HF : Hid (PermIn a b d d ∧ SortedIn lt' a b d) := CT.out.fin hb HP1.out HS1.out (permIn_refl _ _ _) (RT1.out.2.2.2.2 (by omega))
                  clear RT1 CT HP1 HS1 S1
                  go_wp2
                  go_end0
                  exact ⟨rfl, _, S3.out, HF.out.1, HF.out.2⟩
              · have v1z : ¬ (mid : Int) < (en : Int) := by omega
                have S3 : Aside (SB enc w0 blk off d wr) := S1
                have HF : Hid (PermIn a b d d ∧ SortedIn lt' a b d) := CT.out.fin hb HP1.out HS1.out (permIn_refl _ _ _) (RT1.out.2.2.2.2 (by omega))
                clear RT1 CT HP1 HS1 S1
                go_wp2
                go_end0
                exact ⟨rfl, _, S3.out, HF.out.1, HF.out.2⟩
        · have q1z : ¬ (st : Int) < (m : Int) := by omega
          have CT : Hid (Cut3 (ltOf cf) lt' a mid b st en d d) := CUT.out st en d (by omega) hst1 hst2 HI.out HJ.out (RotIs.same d (by omega)) (permIn_refl _ _ _)
          clear CUT HI HJ
          by_cases u1 : a < st
          · have u1z : (a : Int) < (st : Int) := by omega
            by_cases u2 : st < mid
            · have u2z : (st : Int) < (mid : Int) := by omega
              have C1 : Aside (Calls Tryd.prog 78 #[.slice (some ⟨blk, off, none⟩) d.size cap, .int .i64 a, .int .i64 st, .int .i64 mid, .func (.func g) #[] cb] wr fun e w' => e = .returned (.tuple #[]) ∧ ∃ d'', SB enc w0 blk off d'' w' ∧ PermIn a mid d d'' ∧ SortedIn lt' a mid d'') := HIH.out a st mid d wr (by omega) CT.out.size S1.out u1 u2 (by omega) CT.out.s1 CT.out.s2 CT.out.g1
              go_wp2_with fail
              refine C1.out.mono ?_
              rintro e w3 ⟨rfl, d2, h2, p2, q2⟩
              have S2 : Aside (SB enc w0 blk off d2 w3) := h2
              have HP1 : Hid (PermIn a mid d d2) := p2
              have HS1 : Hid (SortedIn lt' a mid d2) := q2
              clear h2 p2 q2 C1 S1
              have RT := CT.out.right hb HP1.out
              have RT1 : Hid (SortedIn lt' mid en d2 ∧ SortedIn lt' en b d2 ∧ Agree (ltOf cf) lt' mid en b d2 ∧ d2.size = d.size ∧ (¬ (mid < en ∧ en < b) → SortedIn lt' mid b d2)) := RT
              clear RT
              by_cases v1 : mid < en
              · have v1z : (mid : Int) < (en : Int) := by omega
                by_cases v2 : en < b
                · have v2z : (en : Int) < (b : Int) := by omega
                  have C : Aside (Calls Tryd.prog 78 #[.slice (some ⟨blk, off, none⟩) d.size cap, .int .i64 mid, .int .i64 en, .int .i64 b, .func (.func g) #[] cb] w3 fun e w' => e = .returned (.tuple #[]) ∧ ∃ d'', SB enc w0 blk off d'' w' ∧ PermIn mid b d2 d'' ∧ SortedIn lt' mid b d'') := HIH.out mid en b d2 w3 (by omega) RT1.out.2.2.2.1 S2.out v1 v2 hb RT1.out.1 RT1.out.2.1 RT1.out.2.2.1
                  go_wp2_with fail
                  refine C.out.mono ?_
                  rintro e w4 ⟨rfl, d3, h3, p3, q3⟩
                  have S3 : Aside (SB enc w0 blk off d3 w4) := h3
                  have HF : Hid (PermIn a b d d3 ∧ SortedIn lt' a b d3) := CT.out.fin hb HP1.out HS1.out p3 q3
                  clear h3 p3 q3 C RT1 CT HP1 HS1 S2
                  go_wp2
                  go_end0
                  exact ⟨rfl, _, S3.out, HF.out.1, HF.out.2⟩
                · have v2z : ¬ (en : Int) < (b : Int) := by omega
                  have S3 : Aside (SB enc w0 blk off d2 w3) := S2
                  have HF : Hid (PermIn a b d d2 ∧ SortedIn lt' a b d2) := CT.out.fin hb HP1.out HS1.out (permIn_refl _ _ _) (RT1.out.2.2.2.2 (by omega))
                  clear RT1 CT HP1 HS1 S2
                  go_wp2
                  go_end0
                  exact ⟨rfl, _, S3.out, HF.out.1, HF.out.2⟩
              · have v1z : ¬ (mid : Int) < (en : Int) := by omega
                have S3 : Aside (SB enc w0 blk off d2 w3) := S2
                have HF : Hid (PermIn a b d d2 ∧ SortedIn lt' a b d2) := CT.out.fin hb HP1.out HS1.out (permIn_refl _ _ _) (RT1.out.2.2.2.2 (by omega))
                clear RT1 CT HP1 HS1 S2
                go_wp2
                go_end0
                exact ⟨rfl, _, S3.out, HF.out.1, HF.out.2⟩
            · have u2z : ¬ (st : Int) < (mid : Int) := by omega
              have HP1 : Hid (PermIn a mid d d) := permIn_refl _ _ _
              have HS1 : Hid (SortedIn lt' a mid d) := CT.out.left_no (by omega)
              have RT := CT.out.right hb HP1.out
              have RT1 : Hid (SortedIn lt' mid en d ∧ SortedIn lt' en b d ∧ Agree (ltOf cf) lt' mid en b d ∧ d.size = d.size ∧ (¬ (mid < en ∧ en < b) → SortedIn lt' mid b d)) := RT
              clear RT
              by_cases v1 : mid < en
              · have v1z : (mid : Int) < (en : Int) := by omega
                by_cases v2 : en < b
                · have v2z : (en : Int) < (b : Int) := by omega
                  have C : Aside (Calls Tryd.prog 78 #[.slice (some ⟨blk, off, none⟩) d.size cap, .int .i64 mid, .int .i64 en, .int .i64 b, .func (.func g) #[] cb] wr fun e w' => e = .returned (.tuple #[]) ∧ ∃ d'', SB enc w0 blk off d'' w' ∧ PermIn mid b d d'' ∧ SortedIn lt' mid b d'') := HIH.out mid en b d wr (by omega) RT1.out.2.2.2.1 S1.out v1 v2 hb RT1.out.1 RT1.out.2.1 RT1.out.2.2.1
                  go_wp2_with fail
                  refine C.out.mono ?_
                  rintro e w4 ⟨rfl, d3, h3, p3, q3⟩
                  have S3 : Aside (SB enc w0 blk off d3 w4) := h3
                  have HF : Hid (PermIn a b d d3 ∧ SortedIn lt' a b d3) := CT.out.fin hb HP1.out HS1.out p3 q3
                  clear h3 p3 q3 C RT1 CT HP1 HS1 S1
                  go_wp2
                  go_end0
                  exact ⟨rfl, _, S3.out, HF.out.1, HF.out.2⟩
                · have v2z : ¬ (en : Int) < (b : Int) := by omega
                  have S3 : Aside (SB enc w0 blk off d wr) := S1
                  have HF : Hid (PermIn a b d d ∧ SortedIn lt' a b d) := CT.out.fin hb HP1.out HS1.out (permIn_refl _ _ _) (RT1.out.2.2.2.2 (by omega))
                  clear RT1 CT HP1 HS1 S1
                  go_wp2
                  go_end0
                  exact ⟨rfl, _, S3.out, HF.out.1, HF.out.2⟩
              · have v1z : ¬ (mid : Int) < (en : Int) := by omega
                have S3 : Aside (SB enc w0 blk off d wr) := S1
                have HF : Hid (PermIn a b d d ∧ SortedIn lt' a b d) := CT.out.fin hb HP1.out HS1.out (permIn_refl _ _ _) (RT1.out.2.2.2.2 (by omega))
                clear RT1 CT HP1 HS1 S1
                go_wp2
                go_end0
                exact ⟨rfl, _, S3.out, HF.out.1, HF.out.2⟩
          · have u1z : ¬ (a : Int) < (st : Int) := by omega
            have HP1 : Hid (PermIn a mid d d) := permIn_refl _ _ _
            have HS1 : Hid (SortedIn lt' a mid d) := CT.out.left_no (by omega)
            have RT := CT.out.right hb HP1.out
            have RT1 : Hid (SortedIn lt' mid en d ∧ SortedIn lt' en b d ∧ Agree (ltOf cf) lt' mid en b d ∧ d.size = d.size ∧ (¬ (mid < en ∧ en < b) → SortedIn lt' mid b d)) := RT
            clear RT
            by_cases v1 : mid < en
            · have v1z : (mid : Int) < (en : Int) := by omega
              by_cases v2 : en < b
              · have v2z : (en : Int) < (b : Int) := by omega
                have C : Aside (Calls Tryd.prog 78 #[.slice (some ⟨blk, off, none⟩) d.size cap, .int .i64 mid, .int .i64 en, .int .i64 b, .func (.func g) #[] cb] wr fun e w' => e = .returned (.tuple #[]) ∧ ∃ d'', SB enc w0 blk off d'' w' ∧ PermIn mid b d d'' ∧ SortedIn lt' mid b d'') := HIH.out mid en b d wr (by omega) RT1.out.2.2.2.1 S1.out v1 v2 hb RT1.out.1 RT1.out.2.1 RT1.out.2.2.1
                go_wp2_with fail
                refine C.out.mono ?_
                rintro e w4 ⟨rfl, d3, h3, p3, q3⟩
                have S3 : Aside (SB enc w0 blk off d3 w4) := h3
                have HF : Hid (PermIn a b d d3 ∧ SortedIn lt' a b d3) := CT.out.fin hb HP1.out HS1.out p3 q3
                clear h3 p3 q3 C RT1 CT HP1 HS1 S1
                go_wp2
                go_end0
                exact ⟨rfl, _, S3.out, HF.out.1, HF.out.2⟩
              · have v2z : ¬ (en : Int) < (b : Int) := by omega
                have S3 : Aside (SB enc w0 blk off d wr) := S1
                have HF : Hid (PermIn a b d d ∧ SortedIn lt' a b d) := CT.out.fin hb HP1.out HS1.out (permIn_refl _ _ _) (RT1.out.2.2.2.2 (by omega))
                clear RT1 CT HP1 HS1 S1
                go_wp2
                go_end0
                exact ⟨rfl, _, S3.out, HF.out.1, HF.out.2⟩
            · have v1z : ¬ (mid : Int) < (en : Int) := by omega
              have S3 : Aside (SB enc w0 blk off d wr) := S1
              have HF : Hid (PermIn a b d d ∧ SortedIn lt' a b d) := CT.out.fin hb HP1.out HS1.out (permIn_refl _ _ _) (RT1.out.2.2.2.2 (by omega))
              clear RT1 CT HP1 HS1 S1
              go_wp2
              go_end0
              exact ⟨rfl, _, S3.out, HF.out.1, HF.out.2⟩
end Go.Proofs.YtaekbmpiohmciaaDoor
