/- What Write answers. -/
import Derived.Test.YtgdjhkcllpkiiaaGreatDoorMdMe
import Derived.Deep.MidRow
namespace Go.Proofs.YtgdjhkcllpkiiaaGreatDoor
open Go.Shelf Go.RowKit Go.Lib
set_option linter.unusedVariables false
set_option linter.unusedSimpArgs false
attribute [local go_sem ↓] Go.wp_at_zero Go.wp_at_succ
def St.bytes : St → List UInt8
  | .inl (b, _) => b
  | _ => []
/-- What goes through the writer, and through the blank behind it. -/
def wr1 (x : Mg) : Mg × St := msgP (.wr [] false) x
def wr2 (x : Mg) : Mg × St := goP false 15 0 (.bl false) (wr1 x).1
def wrOk (x : Mg) : Bool := !(failedP (wr1 x).2 || failedP (wr2 x).2)
def wrS (x : Mg) : ByteArray := if wrOk x then ⟨(wr1 x).2.bytes.toArray⟩ else ⟨#[]⟩
def wrE (x : Mg) : Int := if wrOk x then 0 else 11
set_option maxRecDepth 100000 in
theorem goP_len (b : Bool) : ∀ n i st x, (goP b n i st x).2.len ≤ max st.len 65536 + n * 11000
  | 0, i, st, x => by simp only [goP]; omega
  | n + 1, i, st, x => by
    simp only [goP]
    split
    · have h1 := fld_len i st x
      have h2 := goP_len b n (i + 1) (fldP i st x).2 (fldP i st x).1
      omega
    · have h2 := goP_len b n (i + 1) st x
      omega
set_option maxHeartbeats 1000000 in
theorem failed_same (K : Nat → Prop) (t p : Nat) (st : St) (w : World) (h : PortIs K w t p st) :
    Calls Tryz.prog (fdF t) #[.pointer (some ⟨p, 0, none⟩)] w fun e w' => e = .returned (.bool (failedP st)) ∧ w' = w := by
  have his := h.is
  clear h
  cases st using St.three with
  | wr b f =>
    obtain ⟨rfl, v, h1, h2, h3⟩ := his
    show Calls Tryz.prog 24 _ _ _
    have c0 := cellR (k := 0) h1 rfl
    have c1 := cellR (k := 1) h1 rfl
    have hv : ∃ q c, v = .slice q b.length c := by
      rcases h2.2 with ⟨rfl, h0⟩ | ⟨g, cap, cur, rfl, _⟩
      · exact ⟨none, 0, by rw [h0]⟩
      · exact ⟨_, _, rfl⟩
    obtain ⟨q, c, rfl⟩ := hv
    clear h2 h3 h1
    cases f with
    | true =>
      have HE : Hid (failedP (.wr b true) = true) := by show _ = _; simp [failedP]
      go_enter Tryz.func24, Tryz.ntmps24
      go_wp2_with fail
      go_ret
      exact ⟨by rw [HE.out]; rfl, rfl⟩
    | false =>
      by_cases hl : 65536 < b.length
      · have HE : Hid (failedP (.wr b false) = true) := by show _ = _; simp [failedP, hl]
        have z0 : (65536 : Int) < (b.length : Int) := by omega
        clear hl
        go_enter Tryz.func24, Tryz.ntmps24
        go_wp2_with fail
        go_ret
        exact ⟨by rw [HE.out]; rfl, rfl⟩
      · have HE : Hid (failedP (.wr b false) = false) := by show _ = _; simp [failedP]; omega
        have z0 : ¬ (65536 : Int) < (b.length : Int) := by omega
        clear hl
        go_enter Tryz.func24, Tryz.ntmps24
        go_wp2_with fail
        go_ret
        exact ⟨by rw [HE.out]; rfl, rfl⟩
  | bl f =>
    obtain ⟨rfl, h1⟩ := his
    show Calls Tryz.prog 25 _ _ _
    have c0 := cellR (k := 0) h1 rfl
    clear h1
    go_enter Tryz.func25, Tryz.ntmps25
    go_wp2_with fail
    go_ret
    exact ⟨rfl, rfl⟩
  | rd r f =>
    obtain ⟨rfl, hr, h1⟩ := his
    show Calls Tryz.prog 25 _ _ _
    have c0 := cellR (k := 0) h1 rfl
    clear h1
    go_enter Tryz.func25, Tryz.ntmps25
    go_wp2_with fail
    go_ret
    exact ⟨rfl, rfl⟩
set_option maxRecDepth 100000 in
set_option maxHeartbeats 4000000 in
theorem write_any (cs : Array Value) (D : Nat → Prop) (x : Mg) (w : World) (hD : ∀ b, D b → b < w.heap.size) (hT : Lib.Utf8Tabs 0 1 w) (h2 : 1 < w.heap.size) (hm : MsgIs D w cs x) :
    Calls Tryz.prog 8 #[.agg cs] w fun e w' => e = .returned (.tuple #[.string (wrS x), .int .i64 (wrE x)]) ∧ Below w.heap.size w w' := by
  have hcs : cs.size = 47 := hm.size
  obtain ⟨W0, hW0⟩ : ∃ W0, ((w.alloc (.cells cs 49)).alloc (.cells #[Value.bool false, Value.slice none 0 0] 82)).alloc (.cells #[Value.bool false] 85) = W0 := ⟨_, rfl⟩
  have hs0 : W0.heap.size = w.heap.size + 3 := by rw [← hW0]; simp
  have hB0 : Below w.heap.size w W0 := by rw [← hW0]; exact (((Below.refl _ _).alloc (Nat.le_refl _) _).alloc (by simp) _).alloc (by simp; omega) _
  have hb0 : W0.heap[w.heap.size]? = some (.cells cs 49 (0, 0)) := by
    rw [← hW0, hao _ _ _ (by simp; omega), hao _ _ _ (by simp)]; exact heap_alloc_new w _
  have hb1 : W0.heap[w.heap.size + 1]? = some (.cells #[Value.bool false, Value.slice none 0 0] 82 (0, 0)) := by
    rw [← hW0, hao _ _ _ (by simp)]
    have := heap_alloc_new (w.alloc (.cells cs 49)) (.cells #[Value.bool false, Value.slice none 0 0] 82)
    simpa using this
  have hb2 : W0.heap[w.heap.size + 1 + 1]? = some (.cells #[Value.bool false] 85 (0, 0)) := by
    rw [← hW0]
    have := heap_alloc_new ((w.alloc (.cells cs 49)).alloc (.cells #[Value.bool false, Value.slice none 0 0] 82)) (.cells #[Value.bool false] 85)
    simpa using this
  obtain ⟨K, hK⟩ : ∃ K : Nat → Prop, (fun b => b < w.heap.size ∨ b = w.heap.size + 1 + 1) = K := ⟨_, rfl⟩
  have kin : ∀ b, b < w.heap.size ∨ b = w.heap.size + 1 + 1 → K b := fun b hb => by rw [← hK]; exact hb
  have kout : ∀ b, K b → b < w.heap.size ∨ b = w.heap.size + 1 + 1 := fun b hb => by rw [← hK] at hb; exact hb
  clear hK
  have hkb : Kept D w W0 := Kept.of_below hB0 hD
  have htb : Tabs K W0 := ⟨kin _ (by omega), kin _ (by omega), by
    have t0 : Tabs (fun b => b < w.heap.size) w := ⟨by show 0 < w.heap.size; omega, h2, hT⟩
    exact (t0.mono (fun _ h => h) (Kept.of_below hB0 (fun _ h => h))).2.2⟩
  have hp0 : PortIs (fun b => K b ∨ b = w.heap.size) W0 77 (w.heap.size + 1) (.wr [] false) := by
    refine ⟨fun e => ?_, fun b hb => ?_, fun e => absurd e (by decide), rfl, _, hb1, World.ownsRow_nil _ _ _ _, fun g hg => by simp [Value.ownBlock] at hg⟩
    · rcases e with e | e
      · have := kout _ e; omega
      · omega
    · rcases hb with hb | hb
      · have := kout _ hb; omega
      · omega
  have C1 : Hid (Calls Tryz.prog 22 #[.agg #[.iface 77 (.pointer (some ⟨w.heap.size + 1, 0, none⟩))], .pointer (some ⟨w.heap.size, 0, none⟩)] W0 fun e w' => e = .returned (.tuple #[]) ∧ ∃ (N : Nat → Prop) (cur' : Array Value), (∀ b, N b → W0.heap.size ≤ b) ∧ w'.heap[w.heap.size]? = some (.cells cur' 49 (0, 0)) ∧ MsgIs (fun b => D b ∨ N b) w' cur' (wr1 x).1 ∧ PortIs (fun b => (K b ∨ N b) ∨ b = w.heap.size) w' 77 (w.heap.size + 1) (wr1 x).2 ∧ Kept K W0 w') :=
    message_any 77 (w.heap.size + 1) w.heap.size K D W0 (.wr [] false) cs x htb (fun e => by have := kout _ e; omega) hb0 (fun b hb => kin b (.inl (hD b hb))) (hm.keep (fun _ h => h) hkb) hp0 (by simp [St.len])
  have HTB : Hid (Tabs K W0) := htb
  have HK : Hid ((∀ b, b < w.heap.size ∨ b = w.heap.size + 1 + 1 → K b) ∧ ∀ b, K b → b < w.heap.size ∨ b = w.heap.size + 1 + 1) := ⟨kin, kout⟩
  have HD : Hid (∀ b, D b → b < w.heap.size) := hD
  have HB0 : Hid (Below w.heap.size w W0) := hB0
  have HS0 : Hid (W0.heap.size = w.heap.size + 3) := hs0
  have HB2 : Hid (W0.heap[w.heap.size + 1 + 1]? = some (.cells #[Value.bool false] 85 (0, 0))) := hb2
  have HLN : Hid ((wr1 x).2.len ≤ 300000) := by
    have h1 := grows_oct (.wr [] false) x.k
    have h2 := goP_len true 15 0 (if (octP (.wr [] false) x.k).1 = 0 ∨ 10 ≤ (octP (.wr [] false) x.k).1 then failP (octP (.wr [] false) x.k).2 else (octP (.wr [] false) x.k).2) { x with k := (octP (.wr [] false) x.k).1 }
    have h3 : (if (octP (.wr [] false) x.k).1 = 0 ∨ 10 ≤ (octP (.wr [] false) x.k).1 then failP (octP (.wr [] false) x.k).2 else (octP (.wr [] false) x.k).2).len ≤ 65537 := by
      have h0 : (St.wr [] false).len = 0 := rfl
      rw [h0] at h1
      split
      · rw [failP_len]; omega
      · omega
    show (wr1 x).2.len ≤ 300000
    unfold wr1
    simp only [msgP]
    omega
  clear htb hb0 hb1 hb2 hp0 hkb kin kout hD hm hT h2 hB0 hs0
  go_enter Tryz.func8, Tryz.ntmps8
  go_wp2_with fail
  refine C1.out.mono ?_
  rintro e w1 ⟨rfl, N, cur', hN, hbm, hmi, hpo, hk1⟩
  obtain ⟨b1, f1, hst1⟩ : ∃ b1 f1, (wr1 x).2 = .wr b1 f1 := by
    have := hpo.is
    cases h : (wr1 x).2 using St.three with
    | wr b f => exact ⟨b, f, rfl⟩
    | bl f => rw [h] at this; exact absurd this.1 (by decide)
    | rd r f => rw [h] at this; exact absurd this.1 (by decide)
  have HST : Hid ((wr1 x).2 = .wr b1 f1) := hst1
  rw [hst1] at hpo
  have hlen1 : b1.length ≤ 300000 := by have := HLN.out; rw [hst1] at this; exact this
  obtain ⟨_, v1, hv1, hv2, hv3⟩ := hpo.is
  have hpl := hpo.lt
  obtain ⟨K2, hK2⟩ : ∃ K2 : Nat → Prop, (fun b => b < w.heap.size ∨ N b ∨ b = w.heap.size + 1 ∨ v1.ownBlock = some b) = K2 := ⟨_, rfl⟩
  have k2in : ∀ b, (b < w.heap.size ∨ N b ∨ b = w.heap.size + 1 ∨ v1.ownBlock = some b) → K2 b := fun b hb => by rw [← hK2]; exact hb
  have k2out : ∀ b, K2 b → (b < w.heap.size ∨ N b ∨ b = w.heap.size + 1 ∨ v1.ownBlock = some b) := fun b hb => by rw [← hK2] at hb; exact hb
  clear hK2
  have hs1 : w.heap.size + 3 ≤ w1.heap.size := by have := hk1.size; have := HS0.out; omega
  have hno2 : ∀ g, v1.ownBlock = some g → g ≠ w.heap.size ∧ g ≠ w.heap.size + 1 + 1 ∧ ¬ g < w.heap.size := fun g hg => by
    refine ⟨fun e => (hv3 g hg).1 (.inr e), fun e => (hv3 g hg).1 (.inl (.inl (HK.out.1 g (.inr e)))), fun e => (hv3 g hg).1 (.inl (.inl (HK.out.1 g (.inl e))))⟩
  have hN3 : ∀ b, N b → w.heap.size + 3 ≤ b := fun b hb => by have := hN b hb; have := HS0.out; omega
  have hk1d : Kept (fun b => b < w.heap.size) w w1 := (Kept.of_below HB0.out (fun _ h => h)).trans (hk1.less fun b hb => HK.out.1 b (.inl hb))
  have htb2 : Tabs K2 w1 := by
    have h0 := HTB.out
    have a0 := HK.out.2 _ h0.1
    have a1 := HK.out.2 _ h0.2.1
    have h1 := h0.mono (fun _ h => h) hk1
    exact ⟨k2in _ (.inl (by omega)), k2in _ (.inl (by omega)), h1.2.2⟩
  have hp2 : PortIs (fun b => K2 b ∨ b = w.heap.size) w1 83 (w.heap.size + 1 + 1) (.bl false) := by
    refine ⟨fun e => ?_, fun b hb => ?_, fun e => absurd e (by decide), rfl, by rw [hk1.block _ (HK.out.1 _ (.inr rfl))]; exact HB2.out⟩
    · rcases e with e | e
      · rcases k2out _ e with e | e | e | e
        · omega
        · have := hN3 _ e; omega
        · omega
        · exact (hno2 _ e).2.1 rfl
      · omega
    · rcases hb with hb | hb
      · rcases k2out _ hb with e | e | e | e
        · omega
        · exact hpl b (.inl (.inr e))
        · omega
        · exact ownsRow_lt hv2 b e
      · omega
  have hD2 : ∀ b, D b ∨ N b → K2 b := fun b hb => hb.elim (fun h => k2in b (.inl (HD.out b h))) (fun h => k2in b (.inr (.inl h)))
  have C2 : Hid (Calls Tryz.prog 23 #[.agg #[.iface 83 (.pointer (some ⟨w.heap.size + 1 + 1, 0, none⟩))], .pointer (some ⟨w.heap.size, 0, none⟩)] w1 fun e w' => e = .returned (.tuple #[]) ∧ PortIs K2 w' 83 (w.heap.size + 1 + 1) (wr2 x).2 ∧ Kept K2 w1 w') := by
    refine (other_any 83 (w.heap.size + 1 + 1) w.heap.size K2 (fun b => D b ∨ N b) w1 (.bl false) cur' (wr1 x).1 htb2 (fun e => ?_) hbm hD2 hmi hp2 (by simp [St.len])).mono ?_
    · rcases k2out _ e with e | e | e | e
      · omega
      · have := hN3 _ e; omega
      · omega
      · exact (hno2 _ e).1 rfl
    · rintro e w' ⟨rfl, N', cur2, h1, h2, h3, h4, h5⟩
      exact ⟨rfl, h4.less fun b hb => .inl (.inl hb), h5⟩
  have HV : Hid (w1.heap[w.heap.size + 1]? = some (.cells #[.bool f1, v1] 82 (0, 0)) ∧ w1.ownsRow 0 5 1 v1 b1.length (u8c b1) ∧ (∀ g, v1.ownBlock = some g → g ≠ w.heap.size + 1)) := ⟨hv1, hv2, fun g hg => (hv3 g hg).2⟩
  have HK2 : Hid (∀ b, (b < w.heap.size ∨ N b ∨ b = w.heap.size + 1 ∨ v1.ownBlock = some b) → K2 b) := k2in
  have HNO : Hid (∀ g, v1.ownBlock = some g → ¬ g < w.heap.size) := fun g hg => (hno2 g hg).2.2
  have HKD : Hid (Kept (fun b => b < w.heap.size) w w1) := hk1d
  have HS1 : Hid (w.heap.size + 3 ≤ w1.heap.size ∧ b1.length ≤ 300000) := ⟨hs1, hlen1⟩
  clear hN hbm hmi hpo hk1 C1 hst1 hlen1 hv1 hv2 hv3 hpl k2in k2out hs1 hno2 hN3 hk1d htb2 hp2 hD2
  go_wp2_with fail
  refine C2.out.mono ?_
  rintro e w2 ⟨rfl, hp3, hk3⟩
  have hpw : PortIs (fun b => b < w.heap.size) w2 77 (w.heap.size + 1) (.wr b1 f1) := by
    refine ⟨fun e => ?_, fun b hb => ?_, fun e => absurd e (by decide), rfl, v1, by rw [hk3.block _ (HK2.out _ (.inr (.inr (.inl rfl))))]; exact HV.out.1, ownsRow_of_block HV.out.2.1 (fun g hg => hk3.block g (HK2.out g (.inr (.inr (.inr hg))))), fun g hg => ⟨fun e => ?_, HV.out.2.2 g hg⟩⟩
    · have e : w.heap.size + 1 < w.heap.size := e; omega
    · have := HS1.out; have := hk3.size; have hb : b < w.heap.size := hb; omega
    · exact HNO.out g hg e
  have HBW : Hid (Below w.heap.size w w2) := (HKD.out.trans (hk3.less fun b hb => HK2.out b (.inl hb))).below
  have C3 : Hid (Calls Tryz.prog 24 #[.pointer (some ⟨w.heap.size + 1, 0, none⟩)] w2 fun e w' => e = .returned (.bool (failedP (.wr b1 f1))) ∧ w' = w2) := failed_same _ 77 _ _ w2 hpw
  have C4 : Hid (Calls Tryz.prog 25 #[.pointer (some ⟨w.heap.size + 1 + 1, 0, none⟩)] w2 fun e w' => e = .returned (.bool (failedP (wr2 x).2)) ∧ w' = w2) := failed_same _ 83 _ _ w2 hp3
  obtain ⟨_, v2, hv1, hv2, hv3⟩ := hpw.is
  obtain ⟨q2, c2, rfl⟩ := own_form hv2
  have x1 := cellR (k := 1) hv1 rfl
  have HOW : Hid (w2.ownsRow 0 5 1 (.slice q2 b1.length c2) b1.length (u8c b1)) := hv2
  clear hp3 hk3 hpw hv1 hv2 hv3 C2
  cases hf1 : failedP (.wr b1 f1) with
  | true =>
    rw [hf1] at C3
    have HOK : Hid (wrOk x = false) := by show _ = _; unfold wrOk; rw [HST.out, hf1]; rfl
    clear hf1
    go_wp2_with fail
    refine C3.out.mono ?_
    rintro e w3 ⟨rfl, rfl⟩
    go_wp2_with fail
    go_ret2
    exact ⟨by unfold wrS wrE; rw [HOK.out]; rfl, HBW.out⟩
  | false =>
    rw [hf1] at C3
    cases hf2 : failedP (wr2 x).2 with
    | true =>
      rw [hf2] at C4
      have HOK : Hid (wrOk x = false) := by show _ = _; unfold wrOk; rw [HST.out, hf1, hf2]; rfl
      clear hf1 hf2
      go_wp2_with fail
      refine C3.out.mono ?_
      rintro e w3 ⟨rfl, rfl⟩
      go_wp2_with fail
      refine C4.out.mono ?_
      rintro e w3 ⟨rfl, rfl⟩
      go_wp2_with fail
      go_ret2
      exact ⟨by unfold wrS wrE; rw [HOK.out]; rfl, HBW.out⟩
    | false =>
      rw [hf2] at C4
      have HOK : Hid (wrOk x = true) := by show _ = _; unfold wrOk; rw [HST.out, hf1, hf2]; rfl
      have HWS : Hid (wrS x = ⟨b1.toArray⟩) := by show _ = _; unfold wrS; rw [HOK.out, HST.out]; rfl
      have hcv : ∀ W : World, W = w2 → (convert 80 9 (.slice q2 b1.length c2)).run Tryz.prog W = .ok (.string ⟨b1.toArray⟩) W := by
        rintro W rfl
        rcases HOW.out.2 with ⟨hv, h0⟩ | ⟨g, cap, cur, hv, _, hg, hnc, _, hcs, htake⟩
        · have hb : b1 = [] := List.eq_nil_of_length_eq_zero h0
          subst hb
          simp only [Value.slice.injEq] at hv
          obtain ⟨rfl, _, rfl⟩ := hv
          rw [run_convert_bytes_string _ 80 9 5 none _ _ Tryz.underlying80 Tryz.underlying5 Tryz.underlying9]
          simp [Conv.bytesToString, Sem.run_pure]
          rfl
        · simp only [Value.slice.injEq] at hv
          obtain ⟨rfl, _, rfl⟩ := hv
          exact run_convert_bytes_back (P := Tryz.prog) _ 80 9 5 ⟨g, 0, none⟩ _ b1 Tryz.underlying80 Tryz.underlying5 Tryz.underlying9 (fun j hj => by
            have hc := HOW.out.cells (g := g) rfl j (.int .u8 (b1[j].toNat : Int)) (by simp [u8c, List.getElem?_eq_getElem hj])
            exact hc)
      have hcv2 := hcv w2 rfl
      clear hf1 hf2 hcv
      go_wp2_with fail
      refine C3.out.mono ?_
      rintro e w3 ⟨rfl, rfl⟩
      go_wp2_with fail
      refine C4.out.mono ?_
      rintro e w3 ⟨rfl, rfl⟩
      go_wp2_with fail
      go_ret2
      exact ⟨by unfold wrE; rw [HOK.out, HWS.out]; rfl, HBW.out⟩
end Go.Proofs.YtgdjhkcllpkiiaaGreatDoor
/- What Check answers. -/
namespace Go.Proofs.YtgdjhkcllpkiiaaGreatDoor
open Go.Shelf Go.RowKit Go.Lib
set_option linter.unusedVariables false
set_option linter.unusedSimpArgs false
attribute [local go_sem ↓] Go.wp_at_zero Go.wp_at_succ
theorem size49 : (Tryz.prog.info? 49).map (·.size) = some 47 := by kernel_rfl
theorem Utf8Tabs.later {w W : World} (h : Lib.Utf8Tabs 0 1 w) (h2 : 1 < w.heap.size) (hb : Below w.heap.size w W) : Lib.Utf8Tabs 0 1 W := by
  have t0 : Tabs (fun b => b < w.heap.size) w := ⟨by show 0 < w.heap.size; omega, h2, h⟩
  exact (t0.mono (fun _ h => h) (Kept.of_below hb (fun _ h => h))).2.2
theorem range_new (w : World) (cl : List Value) (t : TypeId) : (w.alloc (.cells cl.toArray t)).rangeAt w.heap.size 0 cl := fun j v hv => by
  rw [Nat.zero_add]
  exact cellR (heap_alloc_new w _) (by simpa using hv)
set_option maxRecDepth 100000 in
set_option maxHeartbeats 1000000 in
theorem check8_any (cl : List Value) (D : Nat → Prop) (x : Mg) (w : World) (hD : ∀ b, D b → b < w.heap.size) (hT : Lib.Utf8Tabs 0 1 w) (h2 : 1 < w.heap.size) (hm : MsgIs D w cl.toArray x) :
    Calls Tryz.prog 14 #[.agg cl.toArray] w fun e w' => e = .returned (.int .i64 (wrE x)) ∧ Below w.heap.size w w' := by
  have hcs : cl.length = 47 := by simpa using hm.size
  have HR : Hid ((w.alloc (.cells cl.toArray 49)).rangeAt w.heap.size 0 cl) := range_new w cl 49
  have hB : Below w.heap.size w (w.alloc (.cells cl.toArray 49)) := (Below.refl _ _).alloc (Nat.le_refl _) _
  have HI : Hid ((Tryz.prog.info? 49).map (·.size) = some cl.length) := by show _ = _; rw [hcs]; exact size49
  have C1 : Hid (Calls Tryz.prog 8 #[.agg cl.toArray] (w.alloc (.cells cl.toArray 49)) fun e w' => e = .returned (.tuple #[.string (wrS x), .int .i64 (wrE x)]) ∧ Below w.heap.size w w') :=
    (write_any cl.toArray D x _ (fun b hb => Nat.lt_of_lt_of_le (hD b hb) hB.size) (Utf8Tabs.later hT h2 hB) (Nat.lt_of_lt_of_le h2 hB.size) (hm.keep (fun _ h => h) (Kept.of_below hB hD))).mono fun e w' ⟨h1, h2⟩ => ⟨h1, hB.trans (h2.mono hB.size)⟩
  clear hD hT h2 hm hB hcs
  go_enter Tryz.func14, Tryz.ntmps14
  go_wp2_with (first | (refine wpList_load_mid rfl 49 _ rfl w.heap.size 0 rfl cl _ HR.out Tryz.underlying49 rfl HI.out ?_) | (go_at_call 8; refine C1.out.mono ?_; rintro e w2 ⟨rfl, hb2⟩; have HB : Hid (Below w.heap.size w w2) := hb2; clear hb2 C1))
  go_ret
  exact ⟨rfl, HB.out⟩
end Go.Proofs.YtgdjhkcllpkiiaaGreatDoor
