/- What slices.stableCmpFunc does to rows. -/
import Derived.Test.YtmagfjlpjjmknaaDoorSf
namespace Go.Proofs.YtmagfjlpjjmknaaDoor
open Go.Shelf Go.RowKit Go.Lib Go.Sort
set_option linter.unusedVariables false
variable {α : Type} [Inhabited α]
set_option maxHeartbeats 16000000 in
set_option maxRecDepth 1000000 in
theorem stable_any (enc : α → Value) (cf : α → α → Int) (tag : α → Nat) (hS : SWO (ltOf cf)) (g : Nat) (cb : Array Value) (blk off cap : Nat) (d0 d : Array α) (w0 w : World)
    (eg : ∀ args w, (callFunc g args).run Tryd.prog w = .ok (.enter g args) w) (hcmp : CmpB Tryd.prog g cb enc cf blk off d0.size w0) (R : Row1 enc w0 blk off d0) (hs : d0.size = d.size) (S : SB enc w0 blk off d w) (hsz : d.size < 1152921504606846976)
    (htag : ∀ i j, i < j → j < d.size → tag d[i]! < tag d[j]!)
    (CI : ∀ (a b : Nat) (dk : Array α) (W : World), dk.size = d.size → SB enc w0 blk off dk W → a ≤ b → b ≤ d.size → Calls Tryd.prog 48 #[.slice (some ⟨blk, off, none⟩) d.size cap, .int .i64 a, .int .i64 b, .func (.func g) #[] cb] W fun e w' => e = .returned (.tuple #[]) ∧ SB enc w0 blk off (insertionSort (ltOf cf) dk a b) w') :
    Calls Tryd.prog 39 #[.slice (some ⟨blk, off, none⟩) d.size cap, .int .i64 d.size, .func (.func g) #[] cb] w fun e w' => e = .returned (.tuple #[]) ∧ ∃ d', SB enc w0 blk off d' w' ∧ PermIn 0 d.size d d' ∧ SortedIn (tlt (ltOf cf) tag) 0 d.size d' := by
  have S0 : Aside (SB enc w0 blk off d w) := S
  have HCI : Aside _ := CI
  have HSM : Aside (∀ (a m b : Nat) (dk : Array α) (W : World), dk.size = d.size → SB enc w0 blk off dk W → a < m → m < b → b ≤ d.size → SortedIn (tlt (ltOf cf) tag) a m dk → SortedIn (tlt (ltOf cf) tag) m b dk → Agree (ltOf cf) (tlt (ltOf cf) tag) a m b dk → Calls Tryd.prog 49 #[.slice (some ⟨blk, off, none⟩) d.size cap, .int .i64 a, .int .i64 m, .int .i64 b, .func (.func g) #[] cb] W fun e w' => e = .returned (.tuple #[]) ∧ ∃ d', SB enc w0 blk off d' w' ∧ PermIn a b dk d' ∧ SortedIn (tlt (ltOf cf) tag) a b d') := fun a m b dk W k1 k2 k3 k4 k5 k6 k7 k8 => by
    have := symMerge_any enc cf (tlt (ltOf cf) tag) (tlt_swo hS) g cb blk off cap d0 w0 eg hcmp R (by omega) (b - a) a m b dk W (Nat.le_refl _) (by omega) k2 k3 k4 (by omega) k6 k7 k8
    rwa [k1] at this
  have I0 : Hid (Ins1 (ltOf cf) tag d.size 0 d) := ins1_start htag
  obtain ⟨n, hn⟩ : ∃ n, d.size = n := ⟨_, rfl⟩
  rw [hn] at hsz HCI HSM I0 ⊢
  have HNd : Hid (d.size = n) := hn
  clear S CI htag hcmp eg hn hs
  go_enter Tryd.func39, Tryd.ntmps39
  go_wp2
  go_loopg [7, 8] n (fun kx s7 s8 wr => ∃ (t A B : Nat) (dk : Array α), s7 = .int .i64 A ∧ s8 = .int .i64 B ∧ Hid (A = t * 20) ∧ A + 20 ≤ B ∧ B ≤ A + 20 ∧ A ≤ n ∧ n - A ≤ kx ∧ Hid (dk.size = n) ∧ Aside (SB enc w0 blk off dk wr) ∧ Hid (Ins1 (ltOf cf) tag n t dk) ∧ Hid (PermIn 0 n d dk))
  case atStart => exact ⟨0, 0, 20, d, rfl, rfl, (by show _ = _; rfl), by omega, by omega, by omega, by omega, HNd, S0, I0, permIn_refl _ _ _⟩
  case round =>
    clear S0 I0
    obtain ⟨t, A, B, dk, rfl, rfl, HA, hB1, hB2, hAn, hkx, HDk, S1, HI, HP⟩ := hrel
    by_cases hle : B ≤ n
    · have hlez : (B : Int) ≤ (n : Int) := by omega
      have hins := insertion_tag (tag := tag) hS dk A B (by omega) (by rw [HDk.out]; exact hle) fun k l h1 h2 h3 => HI.out.2.2 k l (by have := HA.out; omega) h2 (by omega)
      have C : Aside (Calls Tryd.prog 48 #[.slice (some ⟨blk, off, none⟩) n cap, .int .i64 A, .int .i64 B, .func (.func g) #[] cb] wr fun e w' => e = .returned (.tuple #[]) ∧ SB enc w0 blk off (insertionSort (ltOf cf) dk A B) w') := HCI.out A B dk wr HDk.out S1.out (by omega) hle
      generalize insertionSort (ltOf cf) dk A B = d1 at hins C
      have HI2 : Hid (Ins1 (ltOf cf) tag n (t + 1) d1) := by
        have e1 : A = t * 20 := HA.out
        have e2 : B = (t + 1) * 20 := by omega
        rw [e1, e2] at hins
        exact ins1_step (by rw [HDk.out]; exact Nat.le_refl _) (by omega) HI.out hins.1 hins.2
      have HP2 : Hid (PermIn 0 n d d1) := permIn_trans _ _ _ _ _ HP.out (permIn_mono _ _ _ _ _ _ (Nat.zero_le _) hle (by rw [HDk.out]; exact Nat.le_refl _) hins.1)
      have HD2 : Hid (d1.size = n) := hins.1.1.trans HDk.out
      have HA2 : Hid (B = (t + 1) * 20) := by have := HA.out; show _ = _; omega
      clear hins S1 HI HP HDk HA
      go_wp2_with fail
      refine C.out.mono ?_
      rintro e w2 ⟨rfl, h1⟩
      have S2 : Aside (SB enc w0 blk off d1 w2) := h1
      clear h1 C
      go_wp2_with fail
      go_roundg (n - B)
      case measure => omega
      case rel => exact ⟨t + 1, B, B + 20, d1, rfl, by go_num, HA2, by omega, by omega, hle, by omega, HD2, S2, HI2, HP2⟩
    · have hlez : ¬ (B : Int) ≤ (n : Int) := by omega
      have hins := insertion_tag (tag := tag) hS dk A n hAn (by rw [HDk.out]; exact Nat.le_refl _) fun k l h1 h2 h3 => HI.out.2.2 k l (by have := HA.out; omega) h2 h3
      have C : Aside (Calls Tryd.prog 48 #[.slice (some ⟨blk, off, none⟩) n cap, .int .i64 A, .int .i64 n, .func (.func g) #[] cb] wr fun e w' => e = .returned (.tuple #[]) ∧ SB enc w0 blk off (insertionSort (ltOf cf) dk A n) w') := HCI.out A n dk wr HDk.out S1.out hAn (Nat.le_refl _)
      generalize insertionSort (ltOf cf) dk A n = d1 at hins C
      have HB : Hid (Blk (ltOf cf) tag 20 n d1) := by
        have e1 : A = t * 20 := HA.out
        rw [e1] at hins
        exact ins1_end (by rw [HDk.out]; exact Nat.le_refl _) (by omega) (by omega) HI.out hins.1 hins.2
      have HP2 : Hid (PermIn 0 n d d1) := permIn_trans _ _ _ _ _ HP.out (permIn_mono _ _ _ _ _ _ (Nat.zero_le _) (Nat.le_refl _) (by rw [HDk.out]; exact Nat.le_refl _) hins.1)
      have HD2 : Hid (d1.size = n) := hins.1.1.trans HDk.out
      clear hins S1 HI HP HDk HA HCI
      go_wp2_with fail
      refine C.out.mono ?_
      rintro e w2 ⟨rfl, h1⟩
      have S2 : Aside (SB enc w0 blk off d1 w2) := h1
      clear h1 C
      go_wp2_with fail
      go_loopg [6] n (fun kx s6 wr => ∃ (bs : Nat) (dk : Array α), s6 = .int .i64 bs ∧ 20 ≤ bs ∧ bs ≤ 2 * n + 20 ∧ n - bs ≤ kx ∧ Hid (dk.size = n) ∧ Aside (SB enc w0 blk off dk wr) ∧ Hid (Blk (ltOf cf) tag bs n dk) ∧ Hid (PermIn 0 n d dk))
      case atStart => exact ⟨20, d1, rfl, by omega, by omega, by omega, HD2, S2, HB, HP2⟩
      case round =>
        clear S2 HB HP2 HD2
        obtain ⟨bs, dk, rfl, hbs, hbs2, hkx2, HDk, S1, HB, HP⟩ := hrel
        by_cases hlt : bs < n
        · have hltz : (bs : Int) < (n : Int) := by omega
          have HM0 : Hid (Mrg (ltOf cf) tag bs n 0 dk) := mrg_start HB.out
          obtain ⟨V0, hV0⟩ : ∃ V0 : World, V0 = wr := ⟨_, rfl⟩
          subst hV0
          clear HB
          go_wp2_with fail
          go_loopg [7, 8] n (fun kx s7 s8 wr => ∃ (t A B : Nat) (dk : Array α), s7 = .int .i64 A ∧ s8 = .int .i64 B ∧ Hid (A = t * (2 * bs)) ∧ A + 2 * bs ≤ B ∧ B ≤ A + 2 * bs ∧ A ≤ n ∧ n - A ≤ kx ∧ Hid (dk.size = n) ∧ Aside (SB enc w0 blk off dk wr) ∧ Hid (Mrg (ltOf cf) tag bs n t dk) ∧ Hid (PermIn 0 n d dk))
          case atStart => exact ⟨0, 0, 2 * bs, dk, rfl, by go_num, (by show _ = _; rw [Nat.zero_mul]), by omega, by omega, by omega, by omega, HDk, S1, HM0, HP⟩
          case round =>
            clear S1 HM0 HP HDk
            obtain ⟨t, A, B, dk2, rfl, rfl, HA, hB1, hB2, hAn, hkx3, HDk, S1, HM, HP⟩ := hrel
            by_cases hle : B ≤ n
            · have hlez : (B : Int) ≤ (n : Int) := by omega
              have two : SortedIn (tlt (ltOf cf) tag) A (A + bs) dk2 ∧ SortedIn (tlt (ltOf cf) tag) (A + bs) B dk2 ∧ Agree (ltOf cf) (tlt (ltOf cf) tag) A (A + bs) B dk2 := by
                have hA := HA.out
                have := mrg_two (e := B) HM.out (by omega) (by omega) hle (by omega)
                rwa [← hA] at this
              have C : Aside (Calls Tryd.prog 49 #[.slice (some ⟨blk, off, none⟩) n cap, .int .i64 A, .int .i64 ((A : Int) + (bs : Int)), .int .i64 B, .func (.func g) #[] cb] wr fun e w' => e = .returned (.tuple #[]) ∧ ∃ d', SB enc w0 blk off d' w' ∧ PermIn A B dk2 d' ∧ SortedIn (tlt (ltOf cf) tag) A B d') := by
                have := HSM.out A (A + bs) B dk2 wr HDk.out S1.out (by omega) (by omega) hle two.1 two.2.1 two.2.2
                rwa [show ((A + bs : Nat) : Int) = (A : Int) + (bs : Int) by omega] at this
              clear two S1
              go_wp2_with fail
              refine C.out.mono ?_
              rintro e w2 ⟨rfl, d1, h1, p1, q1⟩
              have S2 : Aside (SB enc w0 blk off d1 w2) := h1
              have HM2 : Hid (Mrg (ltOf cf) tag bs n (t + 1) d1) := by
                have hA := HA.out
                have hBe : B = t * (2 * bs) + 2 * bs := by omega
                rw [hA, hBe] at p1 q1
                exact mrg_step (by rw [HDk.out]; exact Nat.le_refl _) (by omega) HM.out p1 q1
              have HP2 : Hid (PermIn 0 n d d1) := permIn_trans _ _ _ _ _ HP.out (permIn_mono _ _ _ _ _ _ (Nat.zero_le _) hle (by rw [HDk.out]; exact Nat.le_refl _) p1)
              have HD2 : Hid (d1.size = n) := p1.1.trans HDk.out
              have HA2 : Hid (B = (t + 1) * (2 * bs)) := by
                have := HA.out
                show _ = _
                rw [Nat.succ_mul t (2 * bs)]
                omega
              clear h1 p1 q1 C HM HP HDk HA
              go_wp2_with fail
              go_roundg (n - B)
              case measure => omega
              case rel => exact ⟨t + 1, B, B + 2 * bs, d1, rfl, by go_num, HA2, by omega, by omega, hle, by omega, HD2, S2, HM2, HP2⟩
            · have hlez : ¬ (B : Int) ≤ (n : Int) := by omega
              by_cases hm : A + bs < n
              · have hmz : (A : Int) + (bs : Int) < (n : Int) := by omega
                have two : SortedIn (tlt (ltOf cf) tag) A (A + bs) dk2 ∧ SortedIn (tlt (ltOf cf) tag) (A + bs) n dk2 ∧ Agree (ltOf cf) (tlt (ltOf cf) tag) A (A + bs) n dk2 := by
                  have hA := HA.out
                  have := mrg_two (e := n) HM.out (by omega) (by omega) (Nat.le_refl _) (.inl rfl)
                  rwa [← hA] at this
                have C : Aside (Calls Tryd.prog 49 #[.slice (some ⟨blk, off, none⟩) n cap, .int .i64 A, .int .i64 ((A : Int) + (bs : Int)), .int .i64 n, .func (.func g) #[] cb] wr fun e w' => e = .returned (.tuple #[]) ∧ ∃ d', SB enc w0 blk off d' w' ∧ PermIn A n dk2 d' ∧ SortedIn (tlt (ltOf cf) tag) A n d') := by
                  have := HSM.out A (A + bs) n dk2 wr HDk.out S1.out (by omega) hm (Nat.le_refl _) two.1 two.2.1 two.2.2
                  rwa [show ((A + bs : Nat) : Int) = (A : Int) + (bs : Int) by omega] at this
                clear two S1
                go_wp2_with fail
                refine C.out.mono ?_
                rintro e w2 ⟨rfl, d1, h1, p1, q1⟩
                have S2 : Aside (SB enc w0 blk off d1 w2) := h1
                have HB2 : Hid (Blk (ltOf cf) tag (2 * bs) n d1) := by
                  have hA := HA.out
                  rw [hA] at p1 q1
                  exact mrg_last (by rw [HDk.out]; exact Nat.le_refl _) (by omega) (by omega) (by omega) HM.out p1 q1
                have HP2 : Hid (PermIn 0 n d d1) := permIn_trans _ _ _ _ _ HP.out (permIn_mono _ _ _ _ _ _ (Nat.zero_le _) (Nat.le_refl _) (by rw [HDk.out]; exact Nat.le_refl _) p1)
                have HD2 : Hid (d1.size = n) := p1.1.trans HDk.out
                clear h1 p1 q1 C HM HP HDk HA
                go_wp2_with fail
                go_roundg (n - 2 * bs)
                case measure => omega
                case rel => exact ⟨2 * bs, d1, by congr 1; omega, by omega, by omega, Nat.le_refl _, HD2, S2, HB2, HP2⟩
              · have hmz : ¬ (A : Int) + (bs : Int) < (n : Int) := by omega
                have HB2 : Hid (Blk (ltOf cf) tag (2 * bs) n dk2) := by
                  have hA := HA.out
                  exact mrg_last (by rw [HDk.out]; exact Nat.le_refl _) (by omega) (by omega) (by omega) HM.out (permIn_refl _ _ _) (mrg_none (by omega) HM.out)
                clear HM HA
                go_wp2_with fail
                go_roundg (n - 2 * bs)
                case measure => omega
                case rel => exact ⟨2 * bs, dk2, by congr 1; omega, by omega, by omega, Nat.le_refl _, HDk, S1, HB2, HP⟩
        · have hltz : ¬ (bs : Int) < (n : Int) := by omega
          have HF : Hid (SortedIn (tlt (ltOf cf) tag) 0 n dk) := blk_one HB.out (by omega)
          clear HB
          go_wp2
          go_end0
          exact ⟨rfl, dk, S1.out, HP.out, HF.out⟩
end Go.Proofs.YtmagfjlpjjmknaaDoor
