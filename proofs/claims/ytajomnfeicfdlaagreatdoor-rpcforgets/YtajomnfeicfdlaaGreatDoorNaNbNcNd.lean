/- What Write answers. -/
import Derived.Test.YtajomnfeicfdlaaGreatDoorMdMe
import Derived.Deep.MidRow
import Derived.KernelRfl
namespace Go.Proofs.YtajomnfeicfdlaaGreatDoor
open Go.Shelf Go.RowKit Go.Lib
set_option linter.unusedVariables false
set_option linter.unusedSimpArgs false
attribute [local go_sem ↓] Go.wp_at_zero Go.wp_at_succ
def St.bytes : St → List UInt8
 | .inl (b, _) => b
 | _ => []
/-- What goes through the writer, and through the blank behind it. -/
def wr1 (x : Mg) : Mg × St := msgP (.wr [] false) x
def wr2 (x : Mg) : Mg × St := goP false 15 0 (.bl false) (wr1 x).1
def wrOk (x : Mg) : Bool := !(failedP (wr1 x).2 || failedP (wr2 x).2)
def wrS (x : Mg) : ByteArray := if wrOk x then ⟨(wr1 x).2.bytes.toArray⟩ else ⟨#[]⟩
def wrE (x : Mg) : Int := if wrOk x then 0 else 11
set_option maxRecDepth 100000 in
theorem goP_len (b : Bool) : ∀ n i st x, (goP b n i st x).2.len ≤ max st.len 65536 + n * 11000
 | 0, i, st, x => by simp only [goP]; omega
 | n + 1, i, st, x => by
  simp only [goP]
  split
  ·have h1 := fld_len i st x
   have h2 := goP_len b n (i + 1) (fldP i st x).2 (fldP i st x).1
   omega
  ·have h2 := goP_len b n (i + 1) st x
   omega
set_option maxHeartbeats 1000000 in
theorem failed_same (K : Nat → Prop) (t p : Nat) (st : St) (w : World) (h : PortIs K w t p st) :
  Calls Tryz.prog (fdF t) #[.pointer (some ⟨p, 0, none⟩)] w fun e w' => e = .returned (.bool (failedP st)) ∧ w' = w := by
 have his := h.is
 clear h
 cases st using St.three with
 | wr b f =>
  obtain ⟨rfl, v, h1, h2, h3⟩ := his
  show Calls Tryz.prog 62 _ _ _
  have c0 := cellR (k := 0) h1 rfl
  have c1 := cellR (k := 1) h1 rfl
  have hv : ∃ q c, v = .slice q b.length c := by
   rcases h2.2 with ⟨rfl, h0⟩ | ⟨g, cap, cur, rfl, _⟩
   ·exact ⟨none, 0, by rw [h0]⟩
   ·exact ⟨_, _, rfl⟩
  obtain ⟨q, c, rfl⟩ := hv
  clear h2 h3 h1
  cases f with
  | true =>
   have HE : Hid (failedP (.wr b true) = true) := by show _ = _; simp [failedP]
   go_enter Tryz.func62, Tryz.ntmps62
   go_wp2_with fail
   go_ret
   exact ⟨by rw [HE.out]; rfl, rfl⟩
  | false =>
   by_cases hl : 65536 < b.length
   ·have HE : Hid (failedP (.wr b false) = true) := by show _ = _; simp [failedP, hl]
    have z0 : (65536 : Int) < (b.length : Int) := by omega
    clear hl
    go_enter Tryz.func62, Tryz.ntmps62
    go_wp2_with fail
    go_ret
    exact ⟨by rw [HE.out]; rfl, rfl⟩
   ·have HE : Hid (failedP (.wr b false) = false) := by show _ = _; simp [failedP]; omega
    have z0 : ¬ (65536 : Int) < (b.length : Int) := by omega
    clear hl
    go_enter Tryz.func62, Tryz.ntmps62
    go_wp2_with fail
    go_ret
    exact ⟨by rw [HE.out]; rfl, rfl⟩
 | bl f =>
  obtain ⟨rfl, h1⟩ := his
  show Calls Tryz.prog 63 _ _ _
  have c0 := cellR (k := 0) h1 rfl
  clear h1
  go_enter Tryz.func63, Tryz.ntmps63
  go_wp2_with fail
  go_ret
  exact ⟨rfl, rfl⟩
 | rd r f => exact his.2.elim
set_option maxRecDepth 100000 in
set_option maxHeartbeats 4000000 in
theorem write_any (cs : Array Value) (D : Nat → Prop) (x : Mg) (w : World) (hD : ∀ b, D b → b < w.heap.size) (hT : Lib.Utf8Tabs 0 1 w) (h2 : 1 < w.heap.size) (hm : MsgIs D w cs x) :
  Calls Tryz.prog 39 #[.agg cs] w fun e w' => e = .returned (.tuple #[.string (wrS x), .int .i64 (wrE x)]) ∧ Below w.heap.size w w' := by
 have hcs : cs.size = 47 := hm.size
 obtain ⟨W0, hW0⟩ : ∃ W0, ((w.alloc (.cells cs 63)).alloc (.cells #[Value.bool false, Value.slice none 0 0] 122)).alloc (.cells #[Value.bool false] 125) = W0 := ⟨_, rfl⟩
 have hs0 : W0.heap.size = w.heap.size + 3 := by rw [← hW0]; simp
 have hB0 : Below w.heap.size w W0 := by rw [← hW0]; exact (((Below.refl _ _).alloc (Nat.le_refl _) _).alloc (by simp) _).alloc (by simp; omega) _
 have hb0 : W0.heap[w.heap.size]? = some (.cells cs 63 (0, 0)) := by
  rw [← hW0, hao _ _ _ (by simp; omega), hao _ _ _ (by simp)]; exact heap_alloc_new w _
 have hb1 : W0.heap[w.heap.size + 1]? = some (.cells #[Value.bool false, Value.slice none 0 0] 122 (0, 0)) := by
  rw [← hW0, hao _ _ _ (by simp)]
  have := heap_alloc_new (w.alloc (.cells cs 63)) (.cells #[Value.bool false, Value.slice none 0 0] 122)
  simpa using this
 have hb2 : W0.heap[w.heap.size + 1 + 1]? = some (.cells #[Value.bool false] 125 (0, 0)) := by
  rw [← hW0]
  have := heap_alloc_new ((w.alloc (.cells cs 63)).alloc (.cells #[Value.bool false, Value.slice none 0 0] 122)) (.cells #[Value.bool false] 125)
  simpa using this
 obtain ⟨K, hK⟩ : ∃ K : Nat → Prop, (fun b => b < w.heap.size ∨ b = w.heap.size + 1 + 1) = K := ⟨_, rfl⟩
 have kin : ∀ b, b < w.heap.size ∨ b = w.heap.size + 1 + 1 → K b := fun b hb => by rw [← hK]; exact hb
 have kout : ∀ b, K b → b < w.heap.size ∨ b = w.heap.size + 1 + 1 := fun b hb => by rw [← hK] at hb; exact hb
 clear hK
 have hkb : Kept D w W0 := Kept.of_below hB0 hD
 have htb : Tabs K W0 := ⟨kin _ (by omega), kin _ (by omega), by
  have t0 : Tabs (fun b => b < w.heap.size) w := ⟨by show 0 < w.heap.size; omega, h2, hT⟩
  exact (t0.mono (fun _ h => h) (Kept.of_below hB0 (fun _ h => h))).2.2⟩
 have hp0 : PortIs (fun b => K b ∨ b = w.heap.size) W0 117 (w.heap.size + 1) (.wr [] false) := by
  refine ⟨fun e => ?_, fun b hb => ?_, rfl, _, hb1, World.ownsRow_nil _ _ _ _, fun g hg => by simp [Value.ownBlock] at hg⟩
  ·rcases e with e | e
   ·have := kout _ e; omega
   ·omega
  ·rcases hb with hb | hb
   ·have := kout _ hb; omega
   ·omega
 have C1 : Hid (Calls Tryz.prog 60 #[.agg #[.iface 117 (.pointer (some ⟨w.heap.size + 1, 0, none⟩))], .pointer (some ⟨w.heap.size, 0, none⟩)] W0 fun e w' => e = .returned (.tuple #[]) ∧ ∃ (N : Nat → Prop) (cur' : Array Value), (∀ b, N b → W0.heap.size ≤ b) ∧ w'.heap[w.heap.size]? = some (.cells cur' 63 (0, 0)) ∧ MsgIs (fun b => D b ∨ N b) w' cur' (wr1 x).1 ∧ PortIs (fun b => (K b ∨ N b) ∨ b = w.heap.size) w' 117 (w.heap.size + 1) (wr1 x).2 ∧ Kept K W0 w') :=
  message_any 117 (w.heap.size + 1) w.heap.size K D W0 (.wr [] false) cs x htb (fun e => by have := kout _ e; omega) hb0 (fun b hb => kin b (.inl (hD b hb))) (hm.keep (fun _ h => h) hkb) hp0 (by simp [St.len])
 have HTB : Hid (Tabs K W0) := htb
 have HK : Hid ((∀ b, b < w.heap.size ∨ b = w.heap.size + 1 + 1 → K b) ∧ ∀ b, K b → b < w.heap.size ∨ b = w.heap.size + 1 + 1) := ⟨kin, kout⟩
 have HD : Hid (∀ b, D b → b < w.heap.size) := hD
 have HB0 : Hid (Below w.heap.size w W0) := hB0
 have HS0 : Hid (W0.heap.size = w.heap.size + 3) := hs0
 have HB2 : Hid (W0.heap[w.heap.size + 1 + 1]? = some (.cells #[Value.bool false] 125 (0, 0))) := hb2
 have HLN : Hid ((wr1 x).2.len ≤ 300000) := by
  have h1 := grows_oct (.wr [] false) x.k
  have h2 := goP_len true 15 0 (if (octP (.wr [] false) x.k).1 = 0 ∨ 10 ≤ (octP (.wr [] false) x.k).1 then failP (octP (.wr [] false) x.k).2 else (octP (.wr [] false) x.k).2) { x with k := (octP (.wr [] false) x.k).1 }
  have h3 : (if (octP (.wr [] false) x.k).1 = 0 ∨ 10 ≤ (octP (.wr [] false) x.k).1 then failP (octP (.wr [] false) x.k).2 else (octP (.wr [] false) x.k).2).len ≤ 65537 := by
   have h0 : (St.wr [] false).len = 0 := rfl
   rw [h0] at h1
   split
   ·rw [failP_len]; omega
   ·omega
  show (wr1 x).2.len ≤ 300000
  unfold wr1
  simp only [msgP]
  omega
 clear htb hb0 hb1 hb2 hp0 hkb kin kout hD hm hT h2 hB0 hs0
 go_enter Tryz.func39, Tryz.ntmps39
 go_wp2_with fail
 refine C1.out.mono ?_
 rintro e w1 ⟨rfl, N, cur', hN, hbm, hmi, hpo, hk1⟩
 obtain ⟨b1, f1, hst1⟩ : ∃ b1 f1, (wr1 x).2 = .wr b1 f1 := by
  have := hpo.is
  cases h : (wr1 x).2 using St.three with
  | wr b f => exact ⟨b, f, rfl⟩
  | bl f => rw [h] at this; exact absurd this.1 (by decide)
  | rd r f => rw [h] at this; exact absurd this.1 (by decide)
 have HST : Hid ((wr1 x).2 = .wr b1 f1) := hst1
 rw [hst1] at hpo
 have hlen1 : b1.length ≤ 300000 := by have := HLN.out; rw [hst1] at this; exact this
 obtain ⟨_, v1, hv1, hv2, hv3⟩ := hpo.is
 have hpl := hpo.lt
 obtain ⟨K2, hK2⟩ : ∃ K2 : Nat → Prop, (fun b => b < w.heap.size ∨ N b ∨ b = w.heap.size + 1 ∨ v1.ownBlock = some b) = K2 := ⟨_, rfl⟩
 have k2in : ∀ b, (b < w.heap.size ∨ N b ∨ b = w.heap.size + 1 ∨ v1.ownBlock = some b) → K2 b := fun b hb => by rw [← hK2]; exact hb
 have k2out : ∀ b, K2 b → (b < w.heap.size ∨ N b ∨ b = w.heap.size + 1 ∨ v1.ownBlock = some b) := fun b hb => by rw [← hK2] at hb; exact hb
 clear hK2
 have hs1 : w.heap.size + 3 ≤ w1.heap.size := by have := hk1.size; have := HS0.out; omega
 have hno2 : ∀ g, v1.ownBlock = some g → g ≠ w.heap.size ∧ g ≠ w.heap.size + 1 + 1 ∧ ¬ g < w.heap.size := fun g hg => by
  refine ⟨fun e => (hv3 g hg).1 (.inr e), fun e => (hv3 g hg).1 (.inl (.inl (HK.out.1 g (.inr e)))), fun e => (hv3 g hg).1 (.inl (.inl (HK.out.1 g (.inl e))))⟩
 have hN3 : ∀ b, N b → w.heap.size + 3 ≤ b := fun b hb => by have := hN b hb; have := HS0.out; omega
 have hk1d : Kept (fun b => b < w.heap.size) w w1 := (Kept.of_below HB0.out (fun _ h => h)).trans (hk1.less fun b hb => HK.out.1 b (.inl hb))
 have htb2 : Tabs K2 w1 := by
  have h0 := HTB.out
  have a0 := HK.out.2 _ h0.1
  have a1 := HK.out.2 _ h0.2.1
  have h1 := h0.mono (fun _ h => h) hk1
  exact ⟨k2in _ (.inl (by omega)), k2in _ (.inl (by omega)), h1.2.2⟩
 have hp2 : PortIs (fun b => K2 b ∨ b = w.heap.size) w1 123 (w.heap.size + 1 + 1) (.bl false) := by
  refine ⟨fun e => ?_, fun b hb => ?_, rfl, by rw [hk1.block _ (HK.out.1 _ (.inr rfl))]; exact HB2.out⟩
  ·rcases e with e | e
   ·rcases k2out _ e with e | e | e | e
    ·omega
    ·have := hN3 _ e; omega
    ·omega
    ·exact (hno2 _ e).2.1 rfl
   ·omega
  ·rcases hb with hb | hb
   ·rcases k2out _ hb with e | e | e | e
    ·omega
    ·exact hpl b (.inl (.inr e))
    ·omega
    ·exact ownsRow_lt hv2 b e
   ·omega
 have hD2 : ∀ b, D b ∨ N b → K2 b := fun b hb => hb.elim (fun h => k2in b (.inl (HD.out b h))) (fun h => k2in b (.inr (.inl h)))
 have C2 : Hid (Calls Tryz.prog 61 #[.agg #[.iface 123 (.pointer (some ⟨w.heap.size + 1 + 1, 0, none⟩))], .pointer (some ⟨w.heap.size, 0, none⟩)] w1 fun e w' => e = .returned (.tuple #[]) ∧ PortIs K2 w' 123 (w.heap.size + 1 + 1) (wr2 x).2 ∧ Kept K2 w1 w') := by
  refine (other_any 123 (w.heap.size + 1 + 1) w.heap.size K2 (fun b => D b ∨ N b) w1 (.bl false) cur' (wr1 x).1 htb2 (fun e => ?_) hbm hD2 hmi hp2 (by simp [St.len])).mono ?_
  ·rcases k2out _ e with e | e | e | e
   ·omega
   ·have := hN3 _ e; omega
   ·omega
   ·exact (hno2 _ e).1 rfl
  ·rintro e w' ⟨rfl, N', cur2, h1, h2, h3, h4, h5⟩
   exact ⟨rfl, h4.less fun b hb => .inl (.inl hb), h5⟩
 have HV : Hid (w1.heap[w.heap.size + 1]? = some (.cells #[.bool f1, v1] 122 (0, 0)) ∧ w1.ownsRow 0 5 1 v1 b1.length (u8c b1) ∧ (∀ g, v1.ownBlock = some g → g ≠ w.heap.size + 1)) := ⟨hv1, hv2, fun g hg => (hv3 g hg).2⟩
 have HK2 : Hid (∀ b, (b < w.heap.size ∨ N b ∨ b = w.heap.size + 1 ∨ v1.ownBlock = some b) → K2 b) := k2in
 have HNO : Hid (∀ g, v1.ownBlock = some g → ¬ g < w.heap.size) := fun g hg => (hno2 g hg).2.2
 have HKD : Hid (Kept (fun b => b < w.heap.size) w w1) := hk1d
 have HS1 : Hid (w.heap.size + 3 ≤ w1.heap.size ∧ b1.length ≤ 300000) := ⟨hs1, hlen1⟩
 clear hN hbm hmi hpo hk1 C1 hst1 hlen1 hv1 hv2 hv3 hpl k2in k2out hs1 hno2 hN3 hk1d htb2 hp2 hD2
 go_wp2_with fail
 refine C2.out.mono ?_
 rintro e w2 ⟨rfl, hp3, hk3⟩
 have hpw : PortIs (fun b => b < w.heap.size) w2 117 (w.heap.size + 1) (.wr b1 f1) := by
  refine ⟨fun e => ?_, fun b hb => ?_, rfl, v1, by rw [hk3.block _ (HK2.out _ (.inr (.inr (.inl rfl))))]; exact HV.out.1, ownsRow_of_block HV.out.2.1 (fun g hg => hk3.block g (HK2.out g (.inr (.inr (.inr hg))))), fun g hg => ⟨fun e => ?_, HV.out.2.2 g hg⟩⟩
  ·have e : w.heap.size + 1 < w.heap.size := e; omega
  ·have := HS1.out; have := hk3.size; have hb : b < w.heap.size := hb; omega
  ·exact HNO.out g hg e
 have HBW : Hid (Below w.heap.size w w2) := (HKD.out.trans (hk3.less fun b hb => HK2.out b (.inl hb))).below
 have C3 : Hid (Calls Tryz.prog 62 #[.pointer (some ⟨w.heap.size + 1, 0, none⟩)] w2 fun e w' => e = .returned (.bool (failedP (.wr b1 f1))) ∧ w' = w2) := failed_same _ 117 _ _ w2 hpw
 have C4 : Hid (Calls Tryz.prog 63 #[.pointer (some ⟨w.heap.size + 1 + 1, 0, none⟩)] w2 fun e w' => e = .returned (.bool (failedP (wr2 x).2)) ∧ w' = w2) := failed_same _ 123 _ _ w2 hp3
 obtain ⟨_, v2, hv1, hv2, hv3⟩ := hpw.is
 obtain ⟨q2, c2, rfl⟩ := own_form hv2
 have x1 := cellR (k := 1) hv1 rfl
 have HOW : Hid (w2.ownsRow 0 5 1 (.slice q2 b1.length c2) b1.length (u8c b1)) := hv2
 clear hp3 hk3 hpw hv1 hv2 hv3 C2
 cases hf1 : failedP (.wr b1 f1) with
 | true =>
  rw [hf1] at C3
  have HOK : Hid (wrOk x = false) := by show _ = _; unfold wrOk; rw [HST.out, hf1]; rfl
  clear hf1
  go_wp2_with fail
  refine C3.out.mono ?_
  rintro e w3 ⟨rfl, rfl⟩
  go_wp2_with fail
  go_ret2
  exact ⟨by unfold wrS wrE; rw [HOK.out]; rfl, HBW.out⟩
 | false =>
  rw [hf1] at C3
  cases hf2 : failedP (wr2 x).2 with
  | true =>
   rw [hf2] at C4
   have HOK : Hid (wrOk x = false) := by show _ = _; unfold wrOk; rw [HST.out, hf1, hf2]; rfl
   clear hf1 hf2
   go_wp2_with fail
   refine C3.out.mono ?_
   rintro e w3 ⟨rfl, rfl⟩
   go_wp2_with fail
   refine C4.out.mono ?_
   rintro e w3 ⟨rfl, rfl⟩
   go_wp2_with fail
   go_ret2
   exact ⟨by unfold wrS wrE; rw [HOK.out]; rfl, HBW.out⟩
  | false =>
   rw [hf2] at C4
   have HOK : Hid (wrOk x = true) := by show _ = _; unfold wrOk; rw [HST.out, hf1, hf2]; rfl
   have HWS : Hid (wrS x = ⟨b1.toArray⟩) := by show _ = _; unfold wrS; rw [HOK.out, HST.out]; rfl
   have hcv : ∀ W : World, W = w2 → (convert 120 9 (.slice q2 b1.length c2)).run Tryz.prog W = .ok (.string ⟨b1.toArray⟩) W := by
    rintro W rfl
    rcases HOW.out.2 with ⟨hv, h0⟩ | ⟨g, cap, cur, hv, _, hg, hnc, _, hcs, htake⟩
    ·have hb : b1 = [] := List.eq_nil_of_length_eq_zero h0
     subst hb
     simp only [Value.slice.injEq] at hv
     obtain ⟨rfl, _, rfl⟩ := hv
     rw [run_convert_bytes_string _ 120 9 5 none _ _ Tryz.underlying120 Tryz.underlying5 Tryz.underlying9]
     simp [Conv.bytesToString, Sem.run_pure]
     rfl
    ·simp only [Value.slice.injEq] at hv
     obtain ⟨rfl, _, rfl⟩ := hv
     exact run_convert_bytes_back (P := Tryz.prog) _ 120 9 5 ⟨g, 0, none⟩ _ b1 Tryz.underlying120 Tryz.underlying5 Tryz.underlying9 (fun j hj => by
      have hc := HOW.out.cells (g := g) rfl j (.int .u8 (b1[j].toNat : Int)) (by simp [u8c, List.getElem?_eq_getElem hj])
      exact hc)
   have hcv2 := hcv w2 rfl
   clear hf1 hf2 hcv
   go_wp2_with fail
   refine C3.out.mono ?_
   rintro e w3 ⟨rfl, rfl⟩
   go_wp2_with fail
   refine C4.out.mono ?_
   rintro e w3 ⟨rfl, rfl⟩
   go_wp2_with fail
   go_ret2
   exact ⟨by unfold wrE; rw [HOK.out, HWS.out]; rfl, HBW.out⟩
end Go.Proofs.YtajomnfeicfdlaaGreatDoor
/- What Check answers. -/
namespace Go.Proofs.YtajomnfeicfdlaaGreatDoor
open Go.Shelf Go.RowKit Go.Lib
set_option linter.unusedVariables false
set_option linter.unusedSimpArgs false
attribute [local go_sem ↓] Go.wp_at_zero Go.wp_at_succ
theorem size49 : (Tryz.prog.info? 63).map (·.size) = some 47 := by kernel_rfl
theorem Utf8Tabs.later {w W : World} (h : Lib.Utf8Tabs 0 1 w) (h2 : 1 < w.heap.size) (hb : Below w.heap.size w W) : Lib.Utf8Tabs 0 1 W := by
 have t0 : Tabs (fun b => b < w.heap.size) w := ⟨by show 0 < w.heap.size; omega, h2, h⟩
 exact (t0.mono (fun _ h => h) (Kept.of_below hb (fun _ h => h))).2.2
theorem range_new (w : World) (cl : List Value) (t : TypeId) : (w.alloc (.cells cl.toArray t)).rangeAt w.heap.size 0 cl := fun j v hv => by
 rw [Nat.zero_add]
 exact cellR (heap_alloc_new w _) (by simpa using hv)
set_option maxRecDepth 100000 in
set_option maxHeartbeats 1000000 in
theorem check8_any (cl : List Value) (D : Nat → Prop) (x : Mg) (w : World) (hD : ∀ b, D b → b < w.heap.size) (hT : Lib.Utf8Tabs 0 1 w) (h2 : 1 < w.heap.size) (hm : MsgIs D w cl.toArray x) :
  Calls Tryz.prog 59 #[.agg cl.toArray] w fun e w' => e = .returned (.int .i64 (wrE x)) ∧ Below w.heap.size w w' := by
 have hcs : cl.length = 47 := by simpa using hm.size
 have HR : Hid ((w.alloc (.cells cl.toArray 63)).rangeAt w.heap.size 0 cl) := range_new w cl 63
 have hB : Below w.heap.size w (w.alloc (.cells cl.toArray 63)) := (Below.refl _ _).alloc (Nat.le_refl _) _
 have HI : Hid ((Tryz.prog.info? 63).map (·.size) = some cl.length) := by show _ = _; rw [hcs]; exact size49
 have C1 : Hid (Calls Tryz.prog 39 #[.agg cl.toArray] (w.alloc (.cells cl.toArray 63)) fun e w' => e = .returned (.tuple #[.string (wrS x), .int .i64 (wrE x)]) ∧ Below w.heap.size w w') :=
  (write_any cl.toArray D x _ (fun b hb => Nat.lt_of_lt_of_le (hD b hb) hB.size) (Utf8Tabs.later hT h2 hB) (Nat.lt_of_lt_of_le h2 hB.size) (hm.keep (fun _ h => h) (Kept.of_below hB hD))).mono fun e w' ⟨h1, h2⟩ => ⟨h1, hB.trans (h2.mono hB.size)⟩
 clear hD hT h2 hm hB hcs
 go_enter Tryz.func59, Tryz.ntmps59
 go_wp2_with (first | (refine wpList_load_mid rfl 63 _ rfl w.heap.size 0 rfl cl _ HR.out Tryz.underlying63 rfl HI.out ?_) | (go_at_call 39; refine C1.out.mono ?_; rintro e w2 ⟨rfl, hb2⟩; have HB : Hid (Below w.heap.size w w2) := hb2; clear hb2 C1))
 go_ret
 exact ⟨rfl, HB.out⟩
end Go.Proofs.YtajomnfeicfdlaaGreatDoor
/- What Read answers. -/
namespace Go.Proofs.YtajomnfeicfdlaaGreatDoor
open Go.Shelf Go.RowKit Go.Lib
set_option linter.unusedVariables false
set_option linter.unusedSimpArgs false
attribute [local go_sem ↓] Go.wp_at_zero Go.wp_at_succ
def zc : List Value := [.int .u8 0, .int .u64 0, .int .u64 0, .int .u64 0, .int .i64 0, .int .i64 0, .int .i64 0, .string ⟨#[]⟩, .string ⟨#[]⟩, .int .i64 0, .int .i64 0, .int .i64 0, .slice none 0 0, .slice none 0 0, .slice none 0 0, .bool false, .slice none 0 0, .slice none 0 0, .slice none 0 0, .int .i64 0, .int .i64 0, .int .u8 0, .string ⟨#[]⟩, .int .u64 0, .int .u64 0, .int .i64 0, .slice none 0 0, .int .u8 0, .string ⟨#[]⟩, .int .u64 0, .int .u64 0, .int .i64 0, .slice none 0 0, .bool false, .int .i64 0, .slice none 0 0, .slice none 0 0, .int .u64 0, .bool false, .slice none 0 0, .string ⟨#[]⟩, .int .u64 0, .int .u64 0, .int .i64 0, .slice none 0 0, .slice none 0 0, .slice none 0 0]
theorem gi_of {α : Type} {rel : Rel α} {lo sz : Nat} {D : Nat → Prop} {W : World} {cl : List Value} {x : α} (cs : List Value) (h1 : cs.length = sz) (h2 : (cl.drop lo).take sz = cs) (h3 : rel D W cs x) : GI rel lo sz D W cl.toArray x := by
 refine ⟨cs, h1, fun j u hj => ?_, h3⟩
 have hjl : j < cs.length := (List.getElem?_eq_some_iff.1 hj).1
 have : ((cl.drop lo).take sz)[j]? = some u := by rw [h2]; exact hj
 rw [List.getElem?_take_of_lt (by omega), List.getElem?_drop] at this
 simpa using this
theorem i64z : I64 0 := by unfold I64; omega
theorem smz : small ⟨#[]⟩ := by show (0 : Nat) ≤ _; omega
/-- The message of nothing. -/
theorem zero_is (W : World) : MsgIs noB W zc.toArray mg0 := by
 have nl : ∀ {α : Type} (rel : Rel α) (s b : Nat), ListIs rel s b noB W (.slice none 0 0) ([] : List α) := fun rel s b => ListIs.nil rel s b noB W
 have sr : rSr noB W [.int .u8 0, .string ⟨#[]⟩, .int .u64 0, .int .u64 0, .int .i64 0, .slice none 0 0] sr0 := ⟨_, rfl, by show (0 : Nat) < 256; omega, smz, ⟨by show (0 : Nat) < _; omega, by show (0 : Nat) < _; omega⟩, i64z, nl _ _ _⟩
 exact ⟨rfl, rfl, by show (0 : Nat) < 256; omega,
  gi_of [.int .u64 0] rfl rfl ⟨rfl, by show (0 : Nat) < _; omega⟩,
  gi_of [.int .u64 0, .int .u64 0] rfl rfl ⟨rfl, by show (0 : Nat) < _; omega, by show (0 : Nat) < _; omega⟩,
  gi_of [.int .i64 0] rfl rfl ⟨rfl, i64z⟩, gi_of [.int .i64 0] rfl rfl ⟨rfl, i64z⟩, gi_of [.int .i64 0] rfl rfl ⟨rfl, i64z⟩,
  gi_of [.string ⟨#[]⟩, .string ⟨#[]⟩, .int .i64 0, .int .i64 0, .int .i64 0, .slice none 0 0, .slice none 0 0, .slice none 0 0, .bool false, .slice none 0 0, .slice none 0 0] rfl rfl ⟨_, _, _, _, _, rfl, smz, smz, i64z, i64z, i64z, nl _ _ _, nl _ _ _, nl _ _ _, nl _ _ _, nl _ _ _⟩,
  gi_of [.slice none 0 0] rfl rfl ⟨_, rfl, nl _ _ _⟩,
  gi_of [.int .i64 0, .int .i64 0, .int .u8 0, .string ⟨#[]⟩, .int .u64 0, .int .u64 0, .int .i64 0, .slice none 0 0, .int .u8 0, .string ⟨#[]⟩, .int .u64 0, .int .u64 0, .int .i64 0, .slice none 0 0, .bool false, .int .i64 0, .slice none 0 0] rfl rfl ⟨[.int .u8 0, .string ⟨#[]⟩, .int .u64 0, .int .u64 0, .int .i64 0, .slice none 0 0], [.int .u8 0, .string ⟨#[]⟩, .int .u64 0, .int .u64 0, .int .i64 0, .slice none 0 0], _, rfl, i64z, i64z, sr, sr, i64z, nl _ _ _⟩,
  gi_of [.slice none 0 0] rfl rfl ⟨_, rfl, nl _ _ _⟩,
  gi_of [.int .u64 0] rfl rfl ⟨rfl, by show (0 : Nat) < _; omega⟩,
  gi_of [.bool false] rfl rfl ⟨rfl, trivial⟩,
  gi_of [.slice none 0 0] rfl rfl ⟨_, rfl, nl _ _ _⟩,
  gi_of [.string ⟨#[]⟩, .int .u64 0, .int .u64 0, .int .i64 0, .slice none 0 0] rfl rfl ⟨_, rfl, smz, ⟨by show (0 : Nat) < _; omega, by show (0 : Nat) < _; omega⟩, i64z, nl _ _ _⟩,
  gi_of [.slice none 0 0] rfl rfl ⟨_, rfl, nl _ _ _⟩,
  gi_of [.slice none 0 0] rfl rfl ⟨_, rfl, nl _ _ _⟩⟩
theorem setCell_any (w : World) (b k : Nat) (v : Value) : (w.setCell ⟨b, k, none⟩ v).heap.size = w.heap.size ∧ (w.setCell ⟨b, k, none⟩ v).os = w.os ∧ (w.setCell ⟨b, k, none⟩ v).tape = w.tape ∧ (w.setCell ⟨b, k, none⟩ v).output = w.output ∧ ∀ j, j ≠ b → (w.setCell ⟨b, k, none⟩ v).heap[j]? = w.heap[j]? := by
 unfold World.setCell
 have hm : ∀ (f : Obj → Obj) (j : Nat), j ≠ b → (w.heap.modify b f)[j]? = w.heap[j]? := fun f j hj => by
  rw [Array.getElem?_modify, if_neg (fun e => hj e.symm)]
 split
 ·exact ⟨by simp, rfl, rfl, rfl, fun j hj => hm _ j hj⟩
 ·exact ⟨by simp, rfl, rfl, rfl, fun j hj => hm _ j hj⟩
theorem setCells_any (b : Nat) : ∀ (vs : List Value) (o : Nat) (w : World), (w.setCells b o vs).heap.size = w.heap.size ∧ (w.setCells b o vs).os = w.os ∧ (w.setCells b o vs).tape = w.tape ∧ (w.setCells b o vs).output = w.output ∧ ∀ j, j ≠ b → (w.setCells b o vs).heap[j]? = w.heap[j]?
 | [], o, w => ⟨rfl, rfl, rfl, rfl, fun _ _ => rfl⟩
 | v :: vs, o, w => by
  obtain ⟨a1, a2, a3, a4, a5⟩ := setCell_any w b o v
  obtain ⟨b1, b2, b3, b4, b5⟩ := setCells_any b vs (o + 1) (w.setCell ⟨b, o, none⟩ v)
  exact ⟨b1.trans a1, b2.trans a2, b3.trans a3, b4.trans a4, fun j hj => (b5 j hj).trans (a5 j hj)⟩
/-- A message is put into a box. -/
theorem put_box {W : World} {g : Nat} {c : Array Value} (hg : W.heap[g]? = some (.cells c 63 (0, 0))) (hc : c.size = 47) (cl : List Value) (hl : cl.length = 47) :
  W.there g 0 47 ∧ ∃ W', W.setCells g 0 cl = W' ∧ W'.rangeAt g 0 cl ∧ W'.heap.size = W.heap.size ∧ Kept (fun b => b ≠ g) W W' := by
 have ht : W.there g 0 47 := fun j hj => by
  rw [Nat.zero_add]
  refine ⟨?_, frozen_zero hg j⟩
  rw [cellR hg (Array.getElem?_eq_getElem (by omega : j < c.size))]
  rfl
 obtain ⟨a1, a2, a3, a4, a5⟩ := setCells_any g cl 0 W
 exact ⟨ht, _, rfl, World.rangeAt_setCells_same W g 0 cl (by rw [hl]; exact ht), a1, ⟨a2, a3, a4, by omega, fun b hb => a5 b hb⟩⟩
theorem gi_one {α : Type} {rel : Rel α} {lo sz : Nat} {D : Nat → Prop} {W : World} {cur : Array Value} {x : α} (h : GI rel lo sz D W cur x) (hr : ∀ cs, rel D W cs x → ∀ v ∈ cs, v.oneCell' = true) : ∀ k v, lo ≤ k → k < lo + sz → cur[k]? = some v → v.oneCell' = true := by
 obtain ⟨cs, h1, h2, h3⟩ := h
 intro k v hk hl hv
 have hj : k - lo < cs.length := by omega
 have := h2 (k - lo) cs[k - lo] (List.getElem?_eq_getElem hj)
 rw [show lo + (k - lo) = k by omega, hv] at this
 rw [Option.some.inj this]
 exact hr cs h3 _ (List.getElem_mem hj)
theorem ls_one {α : Type} {rel : Rel α} {s b : Nat} {D : Nat → Prop} {W : World} {v : Value} {xs : List α} (h : ListIs rel s b D W v xs) : v.oneCell' = true := by
 obtain ⟨q, c, rfl, _⟩ := h
 rfl
theorem msg_one {D : Nat → Prop} {W : World} {cur : Array Value} {x : Mg} (h : MsgIs D W cur x) : cur.all (·.oneCell') = true := by
 have key : ∀ (k : Nat) (v : Value), cur[k]? = some v → v.oneCell' = true := by
  intro k v hv
  have hk : k < 47 := by have := (Array.getElem?_eq_some_iff.1 hv).1; have := h.size; omega
  have sr : ∀ {cs : List Value} {y : Sr}, rSr D W cs y → ∀ v ∈ cs, v.oneCell' = true := by
   rintro cs y ⟨u, rfl, _, _, _, _, hl⟩ v hv
   simp at hv
   rcases hv with rfl | rfl | rfl | rfl | rfl | rfl
   all_goals first | rfl | exact ls_one hl
  by_cases k0 : k = 0
  ·subst k0; rw [h.kc] at hv; rw [← Option.some.inj hv]; rfl
  by_cases k1 : k < 2
  ·exact gi_one h.bt (by rintro cs ⟨rfl, _⟩ v hv; simp at hv; subst hv; rfl) k v (by omega) (by omega) hv
  by_cases k2 : k < 4
  ·exact gi_one h.qr (by rintro cs ⟨rfl, _⟩ v hv; simp at hv; rcases hv with rfl | rfl <;> rfl) k v (by omega) (by omega) hv
  by_cases k3 : k < 5
  ·exact gi_one h.at_ (by rintro cs ⟨rfl, _⟩ v hv; simp at hv; subst hv; rfl) k v (by omega) (by omega) hv
  by_cases k4 : k < 6
  ·exact gi_one h.fr (by rintro cs ⟨rfl, _⟩ v hv; simp at hv; subst hv; rfl) k v (by omega) (by omega) hv
  by_cases k5 : k < 7
  ·exact gi_one h.tq (by rintro cs ⟨rfl, _⟩ v hv; simp at hv; subst hv; rfl) k v (by omega) (by omega) hv
  by_cases k6 : k < 18
  ·exact gi_one h.bd (by
    rintro cs ⟨v1, v2, v3, v4, v5, rfl, _, _, _, _, _, l1, l2, l3, l4, l5⟩ v hv
    simp at hv
    rcases hv with rfl | rfl | rfl | rfl | rfl | rfl | rfl | rfl | rfl | rfl | rfl
    all_goals first | rfl | exact ls_one l1 | exact ls_one l2 | exact ls_one l3 | exact ls_one l4 | exact ls_one l5) k v (by omega) (by omega) hv
  by_cases k7 : k < 19
  ·exact gi_one h.ct (by rintro cs ⟨u, rfl, hl⟩ v hv; simp at hv; subst hv; exact ls_one hl) k v (by omega) (by omega) hv
  by_cases k8 : k < 36
  ·exact gi_one h.fg (by
    rintro cs ⟨c1, c2, u, rfl, _, _, s1, s2, _, hl⟩ v hv
    simp only [List.mem_append, List.mem_cons, List.not_mem_nil, or_false] at hv
    rcases hv with (((rfl | rfl) | hv) | hv) | (rfl | rfl | rfl)
    ·rfl
    ·rfl
    ·exact sr s1 v hv
    ·exact sr s2 v hv
    ·rfl
    ·rfl
    ·exact ls_one hl) k v (by omega) (by omega) hv
  by_cases k9 : k < 37
  ·exact gi_one h.nd (by rintro cs ⟨u, rfl, hl⟩ v hv; simp at hv; subst hv; exact ls_one hl) k v (by omega) (by omega) hv
  by_cases ka : k < 38
  ·exact gi_one h.sq (by rintro cs ⟨rfl, _⟩ v hv; simp at hv; subst hv; rfl) k v (by omega) (by omega) hv
  by_cases kb : k < 39
  ·exact gi_one h.ls (by rintro cs ⟨rfl, _⟩ v hv; simp at hv; subst hv; rfl) k v (by omega) (by omega) hv
  by_cases kc : k < 40
  ·exact gi_one h.rw_ (by rintro cs ⟨u, rfl, hl⟩ v hv; simp at hv; subst hv; exact ls_one hl) k v (by omega) (by omega) hv
  by_cases kd : k < 45
  ·exact gi_one h.fh (by
    rintro cs ⟨u, rfl, _, _, _, hl⟩ v hv
    simp at hv
    rcases hv with rfl | rfl | rfl | rfl | rfl
    all_goals first | rfl | exact ls_one hl) k v (by omega) (by omega) hv
  by_cases ke : k < 46
  ·exact gi_one h.fw (by rintro cs ⟨u, rfl, hl⟩ v hv; simp at hv; subst hv; exact ls_one hl) k v (by omega) (by omega) hv
  ·exact gi_one h.cm (by rintro cs ⟨u, rfl, hl⟩ v hv; simp at hv; subst hv; exact ls_one hl) k v (by omega) (by omega) hv
 exact Array.all_eq_true_iff_forall_mem.2 (fun v hv => by
  obtain ⟨k, hk, e⟩ := Array.getElem_of_mem hv
  exact key k v (by rw [Array.getElem?_eq_getElem hk, e]))
theorem zc_one : (zc.toArray).all (·.oneCell') = true := by kernel_rfl
theorem info49z : (Tryz.prog.info? 63).map (·.size) = some zc.toArray.size := by kernel_rfl
end Go.Proofs.YtajomnfeicfdlaaGreatDoor
/- What lives answers. -/
namespace Go.Proofs.YtajomnfeicfdlaaGreatDoor
open Go.Shelf Go.RowKit Go.Lib
set_option linter.unusedVariables false
set_option linter.unusedSimpArgs false
attribute [local go_sem ↓] Go.wp_at_zero Go.wp_at_succ
/-- A message is put into a new box. -/
theorem new_box (W : World) (cl : List Value) (hl : cl.length = 47) : ∃ WA, W.alloc (.cells zc.toArray 63) = WA ∧ WA.there W.heap.size 0 cl.toArray.size ∧ ∃ WS, WA.setCells W.heap.size 0 cl.toArray.toList = WS ∧ WS.rangeAt W.heap.size 0 cl ∧ WS.heap.size = W.heap.size + 1 ∧ Below W.heap.size W WS := by
 refine ⟨_, rfl, ?_⟩
 have hg : (W.alloc (.cells zc.toArray 63)).heap[W.heap.size]? = some (.cells zc.toArray 63 (0, 0)) := heap_alloc_new W _
 obtain ⟨ht, WS, hWS, hrs, hss, hks⟩ := put_box hg rfl cl hl
 have hB : Below W.heap.size W (W.alloc (.cells zc.toArray 63)) := (Below.refl _ _).alloc (Nat.le_refl _) _
 refine ⟨by rw [show cl.toArray.size = 47 by simpa using hl]; exact ht, WS, by rw [← hWS], hrs, by rw [hss]; simp, ⟨hks.os.trans hB.os, hks.tape.trans hB.tape, hks.output.trans hB.output, by have := hB.size; omega, fun b hb => (hks.block b (by show b ≠ W.heap.size; omega)).trans (hB.block b hb)⟩⟩
end Go.Proofs.YtajomnfeicfdlaaGreatDoor
