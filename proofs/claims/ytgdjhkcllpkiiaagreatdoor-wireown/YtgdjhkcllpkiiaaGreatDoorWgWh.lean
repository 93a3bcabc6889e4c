/- What the reader's number and text answer. -/
import Derived.Test.YtgdjhkcllpkiiaaGreatDoorWf
namespace Go.Proofs.YtgdjhkcllpkiiaaGreatDoor
open Go.Shelf Go.RowKit Go.Lib
set_option linter.unusedVariables false
set_option linter.unusedSimpArgs false
attribute [local go_sem ↓] Go.wp_at_zero Go.wp_at_succ
set_option maxRecDepth 100000 in
theorem wrapU (n : Int) : IntKind.u64.wrap n = n % 18446744073709551616 := by
  have hs : IntKind.u64.signed = false := rfl
  have hb : IntKind.u64.bits = 64 := rfl
  have h2 : (2 ^ 64 : Int) = 18446744073709551616 := by decide
  unfold IntKind.wrap
  rw [hs, hb, h2]
  rfl
theorem acc_eq (acc b i : Nat) : IntKind.wrap .u64 ((acc : Int) + IntKind.wrap .u64 ((b : Int) % 128 * 2 ^ (7 * i))) = (((acc + b % 128 * 2 ^ (7 * i)) % 18446744073709551616 : Nat) : Int) := by
  rw [wrapU, wrapU]
  rw [Int.natCast_emod, Int.natCast_add, Int.natCast_mul, Int.natCast_emod, Int.natCast_pow, Int.add_emod_emod]
  rfl
set_option maxRecDepth 100000 in
set_option maxHeartbeats 1000000 in
theorem numR_any (K : Nat → Prop) (p : Nat) (r : ByteArray) (f : Bool) (n : Nat) (w : World) (h : PortIs K w 94 p (.rd r f)) :
    Calls Tryz.prog 156 #[.pointer (some ⟨p, 0, none⟩), .int .u64 (n : Int)] w fun e w' => e = .returned (.int .u64 ((rnF 10 0 0 (.rd r f)).1 : Int)) ∧ PortIs K w' 94 p (rnF 10 0 0 (.rd r f)).2 ∧ Kept K w w' := by
  have C : Hid (∀ (W : World) (r : ByteArray) (f : Bool), PortIs K W 94 p (.rd r f) → Calls Tryz.prog 157 #[.pointer (some ⟨p, 0, none⟩), .int .u8 0] W fun e w' => e = .returned (.int .u8 ((octP (.rd r f) 0).1 : Int)) ∧ PortIs K w' 94 p (octP (.rd r f) 0).2 ∧ Kept K W w') := fun W r f h => octR_any K p r f 0 W h
  have CF : Hid (∀ (W : World) (st : St), PortIs K W 94 p st → Calls Tryz.prog 149 #[.pointer (some ⟨p, 0, none⟩)] W fun e w' => e = .returned (.tuple #[]) ∧ PortIs K w' 94 p (failP st) ∧ Kept K W w') := fun W st h => fail_any K 94 p st W h
  have HP : Hid (PortIs K w 94 p (.rd r f)) := h
  clear h
  go_enter Tryz.func156, Tryz.ntmps156
  go_wp2_with fail
  obtain ⟨T, hT⟩ : ∃ T, rnF 10 0 0 (.rd r f) = T := ⟨_, rfl⟩
  have HT0 : Hid (rnF 10 0 0 (.rd r f) = T) := hT
  clear hT
  go_loopg [5, 8] 10 (fun gf s5 s8 wx => ∃ (acc i : Nat) (r' : ByteArray) (f' : Bool), s5 = .int .u64 (acc : Int) ∧ s8 = .int .i64 (i : Int) ∧ Hid (gf + i = 10) ∧ Hid (acc < 18446744073709551616) ∧ Hid (rnF gf i acc (.rd r' f') = T) ∧ Hid (PortIs K wx 94 p (.rd r' f') ∧ Kept K w wx))
  case atStart => exact ⟨0, 0, r, f, rfl, rfl, rfl, by show _ < _; omega, HT0, HP.out, Kept.refl _ _⟩
  case round =>
    obtain ⟨acc, i, r', f', rfl, rfl, H1, H2, H3, H4⟩ := hrel
    have hacc := H2.out
    by_cases hi : i < 10
    · obtain ⟨g', rfl⟩ : ∃ g', gk = g' + 1 := ⟨gk - 1, by have := H1.out; omega⟩
      have C1 := C.out wr r' f' H4.out.1
      obtain ⟨r1, f1, hr1⟩ : ∃ r1 f1, (octP (.rd r' f') 0).2 = .rd r1 f1 := by simp only [octP]; split <;> exact ⟨_, _, rfl⟩
      have hb256 : (octP (.rd r' f') 0).1 < 256 := by
        simp only [octP]
        split
        · omega
        · exact UInt8.toNat_lt _
      obtain ⟨b, hb⟩ : ∃ b, (octP (.rd r' f') 0).1 = b := ⟨_, rfl⟩
      rw [hr1, hb] at C1
      rw [hb] at hb256
      have HN : Hid (rnF (g' + 1) i acc (.rd r' f') = if 128 ≤ b then rnF g' (i + 1) ((acc + b % 128 * 2 ^ (7 * i)) % 18446744073709551616) (.rd r1 f1) else if (b = 0 ∧ 0 < i) ∨ (1 < b ∧ i = 9) then (0, .rd r1 true) else ((acc + b % 128 * 2 ^ (7 * i)) % 18446744073709551616, .rd r1 f1)) := by
        show _ = _
        simp only [rnF, hr1, hb, failP]
      clear hr1 hb
      have CC : Hid (Calls Tryz.prog 157 #[.pointer (some ⟨p, 0, none⟩), .int .u8 0] wr fun e w' => e = .returned (.int .u8 (b : Int)) ∧ PortIs K w' 94 p (.rd r1 f1) ∧ Kept K wr w') := C1
      clear C1
      have zi : (i : Int) < 10 := by omega
      have z7 : ¬ (7 * (i : Int) < 0) := by omega
      go_wp2_with fail
      refine CC.out.mono ?_
      rintro e w1 ⟨rfl, h1, h2⟩
      have H5 : Hid (PortIs K w1 94 p (.rd r1 f1) ∧ Kept K w w1) := ⟨h1, H4.out.2.trans h2⟩
      clear h1 h2 CC H4
      by_cases hb : 128 ≤ b
      · have zb : (128 : Int) ≤ (b : Int) := by omega
        go_wp2_with fail
        go_roundg g'
        case measure => omega
        case rel =>
          refine ⟨(acc + b % 128 * 2 ^ (7 * i)) % 18446744073709551616, i + 1, r1, f1, by rw [acc_eq], by go_num, ?_, ?_, ?_, H5.out⟩
          · show _ = _
            have := H1.out
            omega
          · show _ < _
            omega
          · show _ = _
            rw [← H3.out, HN.out, if_pos hb]
      · have zb : ¬ (128 : Int) ≤ (b : Int) := by omega
        have zb2 : b < 128 := by omega
        by_cases hc : (b = 0 ∧ 0 < i) ∨ (1 < b ∧ i = 9)
        · have HE : Hid (T = (0, .rd r1 true)) := by
            show _ = _
            rw [← H3.out, HN.out, if_neg hb, if_pos hc]
          have C6 : Hid (Calls Tryz.prog 149 #[.pointer (some ⟨p, 0, none⟩)] w1 fun e w' => e = .returned (.tuple #[]) ∧ PortIs K w' 94 p (.rd r1 true) ∧ Kept K w1 w') := CF.out w1 (.rd r1 f1) H5.out.1
          have HF : Hid (rnF 10 0 0 (.rd r f) = (0, .rd r1 true)) := by show _ = _; rw [HT0.out, HE.out]
          clear H3 HN hb HE
          rcases hc with ⟨hc1, hc2⟩ | ⟨hc1, hc2⟩
          · have y0 : ((b : Int) == 0) = true := by simp; omega
            have y1 : (0 : Int) < (i : Int) := by omega
            clear hc1 hc2
            go_wp2_with fail
            refine C6.out.mono ?_
            rintro e w2 ⟨rfl, h1, h2⟩
            have H6 : Hid (PortIs K w2 94 p (.rd r1 true) ∧ Kept K w w2) := ⟨h1, H5.out.2.trans h2⟩
            clear h1 h2 C6 H5
            go_wp2_with fail
            go_ret
            exact ⟨by rw [HF.out]; rfl, by rw [HF.out]; exact H6.out⟩
          · have y0 : ((b : Int) == 0) = false := by simp; omega
            have y1 : (1 : Int) < (b : Int) := by omega
            have y2 : ((i : Int) == 9) = true := by simp; omega
            clear hc1 hc2
            go_wp2_with fail
            refine C6.out.mono ?_
            rintro e w2 ⟨rfl, h1, h2⟩
            have H6 : Hid (PortIs K w2 94 p (.rd r1 true) ∧ Kept K w w2) := ⟨h1, H5.out.2.trans h2⟩
            clear h1 h2 C6 H5
            go_wp2_with fail
            go_ret
            exact ⟨by rw [HF.out]; rfl, by rw [HF.out]; exact H6.out⟩
        · have HF : Hid (rnF 10 0 0 (.rd r f) = ((acc + b % 128 * 2 ^ (7 * i)) % 18446744073709551616, .rd r1 f1)) := by
            show _ = _
            rw [HT0.out, ← H3.out, HN.out, if_neg hb, if_neg hc]
          have hae := acc_eq acc b i
          have HAE : Hid (IntKind.wrap .u64 ((acc : Int) + IntKind.wrap .u64 ((b : Int) % 128 * 2 ^ (7 * i))) = (((acc + b % 128 * 2 ^ (7 * i)) % 18446744073709551616 : Nat) : Int)) := hae
          clear H3 HN hb hae
          by_cases h0 : b = 0
          · have hi0 : i = 0 := by omega
            have y0 : ((b : Int) == 0) = true := by simp; omega
            have y1 : ¬ (0 : Int) < (i : Int) := by omega
            have y2 : ¬ (1 : Int) < (b : Int) := by omega
            have HI : Hid (b = 0 ∧ i = 0) := ⟨h0, hi0⟩
            clear hc h0 hi0
            go_wp2_with fail
            go_ret
            exact ⟨by rw [HF.out, ← HAE.out, HI.out.1, HI.out.2, wrapU, wrapU]; simp [wrapU], by rw [HF.out]; exact H5.out⟩
          · have y0 : ((b : Int) == 0) = false := by simp; omega
            by_cases h1 : 1 < b
            · have y1 : (1 : Int) < (b : Int) := by omega
              have y2 : ((i : Int) == 9) = false := by simp; omega
              clear hc h0 h1
              go_wp2_with fail
              go_ret
              exact ⟨by rw [HF.out, ← HAE.out]; rfl, by rw [HF.out]; exact H5.out⟩
            · have y1 : ¬ (1 : Int) < (b : Int) := by omega
              clear hc h0 h1
              go_wp2_with fail
              go_ret
              exact ⟨by rw [HF.out, ← HAE.out]; rfl, by rw [HF.out]; exact H5.out⟩
    · have hi10 : i = 10 := by have := H1.out; omega
      have hgk : gk = 0 := by have := H1.out; omega
      have HF : Hid (rnF 10 0 0 (.rd r f) = (0, .rd r' true)) := by
        show _ = _
        rw [HT0.out, ← H3.out, hgk]
        rfl
      have C6 : Hid (Calls Tryz.prog 149 #[.pointer (some ⟨p, 0, none⟩)] wr fun e w' => e = .returned (.tuple #[]) ∧ PortIs K w' 94 p (.rd r' true) ∧ Kept K wr w') := CF.out wr (.rd r' f') H4.out.1
      have zi : ¬ (i : Int) < 10 := by omega
      clear hi hi10 hgk H3
      go_wp2_with fail
      refine C6.out.mono ?_
      rintro e w2 ⟨rfl, h1, h2⟩
      have H6 : Hid (PortIs K w2 94 p (.rd r' true) ∧ Kept K w w2) := ⟨h1, H4.out.2.trans h2⟩
      clear h1 h2 C6 H4
      go_wp2_with fail
      go_ret
      exact ⟨by rw [HF.out]; rfl, by rw [HF.out]; exact H6.out⟩
end Go.Proofs.YtgdjhkcllpkiiaaGreatDoor
/- What any port's functions answer. -/
namespace Go.Proofs.YtgdjhkcllpkiiaaGreatDoor
open Go.Shelf Go.RowKit Go.Lib
set_option linter.unusedVariables false
set_option linter.unusedSimpArgs false
attribute [local go_sem ↓] Go.wp_at_zero Go.wp_at_succ
set_option maxRecDepth 100000 in
set_option maxHeartbeats 1000000 in
theorem txtR_any (K : Nat → Prop) (p : Nat) (r : ByteArray) (f : Bool) (s : ByteArray) (w : World) (h : PortIs K w 94 p (.rd r f)) :
    Calls Tryz.prog 158 #[.pointer (some ⟨p, 0, none⟩), .string s] w fun e w' => e = .returned (.string (txtP (.rd r f) s).1) ∧ PortIs K w' 94 p (txtP (.rd r f) s).2 ∧ Kept K w w' := by
  have C : Hid (Calls Tryz.prog 156 #[.pointer (some ⟨p, 0, none⟩), .int .u64 0] w fun e w' => e = .returned (.int .u64 ((rnF 10 0 0 (.rd r f)).1 : Int)) ∧ PortIs K w' 94 p (rnF 10 0 0 (.rd r f)).2 ∧ Kept K w w') := numR_any K p r f 0 w h
  obtain ⟨r', f', h2⟩ := rnF_rd 10 0 0 r f
  obtain ⟨⟨n, st'⟩, hr⟩ : ∃ q, rnF 10 0 0 (.rd r f) = q := ⟨_, rfl⟩
  rw [hr] at h2 C
  simp only at h2
  subst h2
  simp only at C
  by_cases hb : 2048 < n
  · have HT : Hid (txtP (.rd r f) s = (⟨#[]⟩, .rd r' true)) := by show _ = _; simp only [txtP, hr]; rw [if_pos hb]
    have C2 : Hid (∀ W, PortIs K W 94 p (.rd r' f') → Calls Tryz.prog 149 #[.pointer (some ⟨p, 0, none⟩)] W fun e w' => e = .returned (.tuple #[]) ∧ PortIs K w' 94 p (.rd r' true) ∧ Kept K W w') := fun W h => fail_any K 94 p (.rd r' f') W h
    have z0 : (2048 : Int) < (n : Int) := by omega
    clear h hr hb
    go_enter Tryz.func158, Tryz.ntmps158
    go_wp2_with fail
    refine C.out.mono ?_
    rintro e w1 ⟨rfl, h1, h2⟩
    have C3 := C2.out w1 h1
    have H1 : Hid (Kept K w w1) := h2
    clear h1 h2 C C2
    go_wp2_with fail
    refine C3.mono ?_
    rintro e w2 ⟨rfl, h1, h2⟩
    have H2 : Hid (PortIs K w2 94 p (.rd r' true) ∧ Kept K w w2) := ⟨h1, H1.out.trans h2⟩
    clear h1 h2 C3
    go_wp2_with fail
    go_ret
    exact ⟨by rw [HT.out]; rfl, by rw [HT.out]; exact H2.out⟩
  · have HT : Hid (txtP (.rd r f) s = takeP r' f' n) := by show _ = _; simp only [txtP, hr]; rw [if_neg hb]
    have C2 : Hid (∀ W, PortIs K W 94 p (.rd r' f') → Calls Tryz.prog 159 #[.pointer (some ⟨p, 0, none⟩), .int .i64 (n : Int)] W fun e w' => e = .returned (.string (takeP r' f' n).1) ∧ PortIs K w' 94 p (takeP r' f' n).2 ∧ Kept K W w') := fun W h => take_any K p r' f' n W h (by omega)
    have hts : (takeP r' f' n).1.size ≤ 281474976710656 := by
      unfold takeP
      split
      · show 0 ≤ _; omega
      · simp only [ByteArray.size_extract]; omega
    obtain ⟨⟨u, st2⟩, hu⟩ : ∃ q, takeP r' f' n = q := ⟨_, rfl⟩
    rw [hu] at C2 HT hts
    simp only at C2 hts
    have C4 : Hid (∀ W, Calls Tryz.prog 160 #[.string u] W fun e w' => e = .returned (.string u) ∧ Below W.heap.size W w') := fun W => clone_any u W hts
    have z0 : ¬ (2048 : Int) < (n : Int) := by omega
    have z1 : n ≤ 2048 := by omega
    clear h hr hb hu hts
    go_enter Tryz.func158, Tryz.ntmps158
    go_wp2_with fail
    refine C.out.mono ?_
    rintro e w1 ⟨rfl, h1, h2⟩
    have C3 := C2.out w1 h1
    have H1 : Hid (Kept K w w1) := h2
    clear h1 h2 C C2
    go_wp2_with fail
    refine C3.mono ?_
    rintro e w2 ⟨rfl, h1, h2⟩
    have H2 : Hid (PortIs K w2 94 p st2 ∧ Kept K w w2) := ⟨h1, H1.out.trans h2⟩
    clear h1 h2 C3
    go_wp2_with fail
    refine (C4.out _).mono ?_
    rintro e w3 ⟨rfl, hb3⟩
    have H3 : Hid (PortIs K w3 94 p st2 ∧ Kept K w w3) := ⟨H2.out.1.below hb3, H2.out.2.trans (Kept.of_below hb3 H2.out.1.lt)⟩
    clear hb3 H2 C4
    go_wp2_with fail
    go_ret
    exact ⟨by rw [HT.out]; rfl, by rw [HT.out]; exact H3.out⟩
/-- Which functions a port of a type has. -/
def ocF (t : Nat) : Nat := if t = 77 then 151 else if t = 83 then 154 else 157
def nuF (t : Nat) : Nat := if t = 77 then 150 else if t = 83 then 153 else 156
def txF (t : Nat) : Nat := if t = 77 then 152 else if t = 83 then 155 else 158
theorem oct_any (K : Nat → Prop) (t p : Nat) (st : St) (k : Nat) (w : World) (h : PortIs K w t p st) (hk : k < 256) (hl : st.len ≤ 990000) :
    Calls Tryz.prog (ocF t) #[.pointer (some ⟨p, 0, none⟩), .int .u8 (k : Int)] w fun e w' => e = .returned (.int .u8 ((octP st k).1 : Int)) ∧ PortIs K w' t p (octP st k).2 ∧ Kept K w w' := by
  cases st using St.three with
  | wr b f => obtain rfl : t = 77 := h.is.1; exact octW_any K p b f k w h hk (by simp only [St.len] at hl; omega)
  | bl f => obtain rfl : t = 83 := h.is.1; exact octB_any K p f k w h hk
  | rd r f => obtain rfl : t = 94 := h.is.1; exact octR_any K p r f k w h
theorem num_any (K : Nat → Prop) (t p : Nat) (st : St) (n : Nat) (w : World) (h : PortIs K w t p st) (hk : n < 18446744073709551616) (hl : st.len ≤ 990000) :
    Calls Tryz.prog (nuF t) #[.pointer (some ⟨p, 0, none⟩), .int .u64 (n : Int)] w fun e w' => e = .returned (.int .u64 ((numP st n).1 : Int)) ∧ PortIs K w' t p (numP st n).2 ∧ Kept K w w' := by
  cases st using St.three with
  | wr b f => obtain rfl : t = 77 := h.is.1; exact numW_any K p b f n w h hk (by simp only [St.len] at hl; omega)
  | bl f => obtain rfl : t = 83 := h.is.1; exact numB_any K p f n w h
  | rd r f => obtain rfl : t = 94 := h.is.1; exact numR_any K p r f n w h
theorem txt_any (K : Nat → Prop) (t p : Nat) (st : St) (s : ByteArray) (w : World) (h : PortIs K w t p st) (hs : s.size ≤ 140737488355328) (hl : st.len ≤ 990000) :
    Calls Tryz.prog (txF t) #[.pointer (some ⟨p, 0, none⟩), .string s] w fun e w' => e = .returned (.string (txtP st s).1) ∧ PortIs K w' t p (txtP st s).2 ∧ Kept K w w' := by
  cases st using St.three with
  | wr b f =>
    obtain rfl : t = 77 := h.is.1
    refine (txtW_any K p b f s w h hs (by simp only [St.len] at hl; omega)).mono ?_
    rintro e w' ⟨rfl, h1, h2⟩
    by_cases hb : 2048 < s.size
    · rw [if_pos hb] at h1
      have : txtP (.wr b f) s = (s, .wr b true) := by simp only [txtP]; rw [if_pos hb]
      rw [this]
      exact ⟨rfl, h1, h2⟩
    · rw [if_neg hb] at h1
      have : txtP (.wr b f) s = (s, .wr (b ++ vn s.size ++ s.data.toList) f) := by simp only [txtP]; rw [if_neg hb]
      rw [this]
      exact ⟨rfl, h1, h2⟩
  | bl f => obtain rfl : t = 83 := h.is.1; exact txtB_any K p f s w h hs
  | rd r f => obtain rfl : t = 94 := h.is.1; exact txtR_any K p r f s w h
theorem octP_lt (st : St) (k : Nat) (hk : k < 256) : (octP st k).1 < 256 := by
  cases st using St.three with
  | wr b f => exact hk
  | bl f => exact hk
  | rd r f =>
    simp only [octP]
    split
    · show (0 : Nat) < 256; omega
    · exact UInt8.toNat_lt _
theorem rnF_lt : ∀ k i acc st, (rnF k i acc st).1 < 18446744073709551616
  | 0, _, _, st => by show (0 : Nat) < _; omega
  | k + 1, i, acc, st => by
    simp only [rnF]
    split
    · exact rnF_lt k (i + 1) _ _
    · split
      · show (0 : Nat) < _; omega
      · exact Nat.mod_lt _ (by omega)
theorem numP_lt (st : St) (n : Nat) (hn : n < 18446744073709551616) : (numP st n).1 < 18446744073709551616 := by
  cases st using St.three with
  | wr b f => exact hn
  | bl f => exact hn
  | rd r f => exact rnF_lt 10 0 0 (.rd r f)
/-- A walk through a port. -/
def wk (t p : Nat) : Value := .agg #[.iface t (.pointer (some ⟨p, 0, none⟩))]
def isT (t : Nat) : Prop := t = 77 ∨ t = 83 ∨ t = 94
theorem PortIs.isT {K : Nat → Prop} {W : World} {t p : Nat} {st : St} (h : PortIs K W t p st) : isT t := by
  have := h.is
  cases st using St.three with
  | wr b f => exact .inl this.1
  | bl f => exact .inr (.inl this.1)
  | rd r f => exact .inr (.inr this.1)
theorem m_oct {t : Nat} (h : isT t) (p : Nat) (w : World) : (method 338 t (.pointer (some ⟨p, 0, none⟩)) "potsherd/wire.octet").run Tryz.prog w = .ok (ocF t, .pointer (some ⟨p, 0, none⟩)) w := by
  rcases h with rfl | rfl | rfl <;> kernel_rfl
theorem m_num {t : Nat} (h : isT t) (p : Nat) (w : World) : (method 338 t (.pointer (some ⟨p, 0, none⟩)) "potsherd/wire.number").run Tryz.prog w = .ok (nuF t, .pointer (some ⟨p, 0, none⟩)) w := by
  rcases h with rfl | rfl | rfl <;> kernel_rfl
theorem m_txt {t : Nat} (h : isT t) (p : Nat) (w : World) : (method 338 t (.pointer (some ⟨p, 0, none⟩)) "potsherd/wire.text").run Tryz.prog w = .ok (txF t, .pointer (some ⟨p, 0, none⟩)) w := by
  rcases h with rfl | rfl | rfl <;> kernel_rfl
theorem m_fail {t : Nat} (h : isT t) (p : Nat) (w : World) : (method 338 t (.pointer (some ⟨p, 0, none⟩)) "potsherd/wire.fail").run Tryz.prog w = .ok (149, .pointer (some ⟨p, 0, none⟩)) w := by
  rcases h with rfl | rfl | rfl <;> kernel_rfl
theorem m_failed {t : Nat} (h : isT t) (p : Nat) (w : World) : (method 338 t (.pointer (some ⟨p, 0, none⟩)) "potsherd/wire.failed").run Tryz.prog w = .ok (fdF t, .pointer (some ⟨p, 0, none⟩)) w := by
  rcases h with rfl | rfl | rfl <;> kernel_rfl
theorem e_oct {t : Nat} (h : isT t) : ∀ args w, (callFunc (ocF t) args).run Tryz.prog w = .ok (.enter (ocF t) args) w := by
  rcases h with rfl | rfl | rfl
  · exact enters_of Tryz.func151 (by kernel_rfl) rfl
  · exact enters_of Tryz.func154 (by kernel_rfl) rfl
  · exact enters_of Tryz.func157 (by kernel_rfl) rfl
theorem e_num {t : Nat} (h : isT t) : ∀ args w, (callFunc (nuF t) args).run Tryz.prog w = .ok (.enter (nuF t) args) w := by
  rcases h with rfl | rfl | rfl
  · exact enters_of Tryz.func150 (by kernel_rfl) rfl
  · exact enters_of Tryz.func153 (by kernel_rfl) rfl
  · exact enters_of Tryz.func156 (by kernel_rfl) rfl
theorem e_txt {t : Nat} (h : isT t) : ∀ args w, (callFunc (txF t) args).run Tryz.prog w = .ok (.enter (txF t) args) w := by
  rcases h with rfl | rfl | rfl
  · exact enters_of Tryz.func152 (by kernel_rfl) rfl
  · exact enters_of Tryz.func155 (by kernel_rfl) rfl
  · exact enters_of Tryz.func158 (by kernel_rfl) rfl
theorem e_failed {t : Nat} (h : isT t) : ∀ args w, (callFunc (fdF t) args).run Tryz.prog w = .ok (.enter (fdF t) args) w := by
  rcases h with rfl | rfl | rfl
  · exact enters_of Tryz.func24 (by kernel_rfl) rfl
  · exact enters_of Tryz.func25 (by kernel_rfl) rfl
  · exact enters_of Tryz.func25 (by kernel_rfl) rfl
set_option maxRecDepth 100000 in
set_option maxHeartbeats 1000000 in
theorem kind13_any (K : Nat → Prop) (t p : Nat) (st : St) (k : Nat) (w : World) (h : PortIs K w t p st) (hk : k < 256) (hl : st.len ≤ 990000) :
    Calls Tryz.prog 35 #[wk t p, .int .u8 (k : Int)] w fun e w' => e = .returned (.int .u8 ((octP st k).1 : Int)) ∧ PortIs K w' t p (octP st k).2 ∧ Kept K w w' := by
  have hm := m_oct h.isT p
  have eg := e_oct h.isT
  obtain ⟨F, hF⟩ : ∃ F, ocF t = F := ⟨_, rfl⟩
  obtain ⟨W0, hW0⟩ : ∃ W0, w.alloc (.cells #[.iface t (.pointer (some ⟨p, 0, none⟩))] 89) = W0 := ⟨_, rfl⟩
  have C : Hid (Calls Tryz.prog F #[.pointer (some ⟨p, 0, none⟩), .int .u8 (k : Int)] W0 fun e w' => e = .returned (.int .u8 ((octP st k).1 : Int)) ∧ PortIs K w' t p (octP st k).2 ∧ Kept K w w') := by
    rw [← hF, ← hW0]
    exact (oct_any K t p st k _ (h.allocK _) hk hl).mono fun e w' ⟨h1, h2, h3⟩ => ⟨h1, h2, ((Kept.refl K w).alloc h.lt _).trans h3⟩
  have hr := octP_lt st k hk
  rw [hF] at hm eg
  have cw : W0.cell? ⟨w.heap.size, 0, none⟩ = some (.iface t (.pointer (some ⟨p, 0, none⟩))) := by rw [← hW0]; exact cellR (heap_alloc_new w _) rfl
  obtain ⟨⟨k1, st1⟩, hk1⟩ : ∃ q, octP st k = q := ⟨_, rfl⟩
  rw [hk1] at C hr ⊢
  simp only at C hr ⊢
  unfold wk
  clear h hl hF hk1
  go_enter Tryz.func35, Tryz.ntmps35
  go_wp2_with (go_at_fn F; refine C.out.mono ?_; rintro e w2 ⟨rfl, h1, h2⟩; have H2 : Hid (PortIs K w2 t p st1 ∧ Kept K w w2) := ⟨h1, h2⟩; clear h1 h2 C)
  go_ret
  exact ⟨rfl, H2.out⟩
set_option maxRecDepth 100000 in
set_option maxHeartbeats 1000000 in
theorem kind55_any (K : Nat → Prop) (t p : Nat) (st : St) (k : Nat) (w : World) (h : PortIs K w t p st) (hk : k < 256) (hl : st.len ≤ 990000) :
    Calls Tryz.prog 109 #[wk t p, .int .u8 (k : Int)] w fun e w' => e = .returned (.int .u8 ((octP st k).1 : Int)) ∧ PortIs K w' t p (octP st k).2 ∧ Kept K w w' := by
  have hm := m_oct h.isT p
  have eg := e_oct h.isT
  obtain ⟨F, hF⟩ : ∃ F, ocF t = F := ⟨_, rfl⟩
  obtain ⟨W0, hW0⟩ : ∃ W0, w.alloc (.cells #[.iface t (.pointer (some ⟨p, 0, none⟩))] 89) = W0 := ⟨_, rfl⟩
  have C : Hid (Calls Tryz.prog F #[.pointer (some ⟨p, 0, none⟩), .int .u8 (k : Int)] W0 fun e w' => e = .returned (.int .u8 ((octP st k).1 : Int)) ∧ PortIs K w' t p (octP st k).2 ∧ Kept K w w') := by
    rw [← hF, ← hW0]
    exact (oct_any K t p st k _ (h.allocK _) hk hl).mono fun e w' ⟨h1, h2, h3⟩ => ⟨h1, h2, ((Kept.refl K w).alloc h.lt _).trans h3⟩
  have hr := octP_lt st k hk
  rw [hF] at hm eg
  have cw : W0.cell? ⟨w.heap.size, 0, none⟩ = some (.iface t (.pointer (some ⟨p, 0, none⟩))) := by rw [← hW0]; exact cellR (heap_alloc_new w _) rfl
  obtain ⟨⟨k1, st1⟩, hk1⟩ : ∃ q, octP st k = q := ⟨_, rfl⟩
  rw [hk1] at C hr ⊢
  simp only at C hr ⊢
  unfold wk
  clear h hl hF hk1
  go_enter Tryz.func109, Tryz.ntmps109
  go_wp2_with (go_at_fn F; refine C.out.mono ?_; rintro e w2 ⟨rfl, h1, h2⟩; have H2 : Hid (PortIs K w2 t p st1 ∧ Kept K w w2) := ⟨h1, h2⟩; clear h1 h2 C)
  go_ret
  exact ⟨rfl, H2.out⟩
set_option maxRecDepth 100000 in
set_option maxHeartbeats 1000000 in
theorem kind58_any (K : Nat → Prop) (t p : Nat) (st : St) (k : Nat) (w : World) (h : PortIs K w t p st) (hk : k < 256) (hl : st.len ≤ 990000) :
    Calls Tryz.prog 112 #[wk t p, .int .u8 (k : Int)] w fun e w' => e = .returned (.int .u8 ((octP st k).1 : Int)) ∧ PortIs K w' t p (octP st k).2 ∧ Kept K w w' := by
  have hm := m_oct h.isT p
  have eg := e_oct h.isT
  obtain ⟨F, hF⟩ : ∃ F, ocF t = F := ⟨_, rfl⟩
  obtain ⟨W0, hW0⟩ : ∃ W0, w.alloc (.cells #[.iface t (.pointer (some ⟨p, 0, none⟩))] 89) = W0 := ⟨_, rfl⟩
  have C : Hid (Calls Tryz.prog F #[.pointer (some ⟨p, 0, none⟩), .int .u8 (k : Int)] W0 fun e w' => e = .returned (.int .u8 ((octP st k).1 : Int)) ∧ PortIs K w' t p (octP st k).2 ∧ Kept K w w') := by
    rw [← hF, ← hW0]
    exact (oct_any K t p st k _ (h.allocK _) hk hl).mono fun e w' ⟨h1, h2, h3⟩ => ⟨h1, h2, ((Kept.refl K w).alloc h.lt _).trans h3⟩
  have hr := octP_lt st k hk
  rw [hF] at hm eg
  have cw : W0.cell? ⟨w.heap.size, 0, none⟩ = some (.iface t (.pointer (some ⟨p, 0, none⟩))) := by rw [← hW0]; exact cellR (heap_alloc_new w _) rfl
  obtain ⟨⟨k1, st1⟩, hk1⟩ : ∃ q, octP st k = q := ⟨_, rfl⟩
  rw [hk1] at C hr ⊢
  simp only at C hr ⊢
  unfold wk
  clear h hl hF hk1
  go_enter Tryz.func112, Tryz.ntmps112
  go_wp2_with (go_at_fn F; refine C.out.mono ?_; rintro e w2 ⟨rfl, h1, h2⟩; have H2 : Hid (PortIs K w2 t p st1 ∧ Kept K w w2) := ⟨h1, h2⟩; clear h1 h2 C)
  go_ret
  exact ⟨rfl, H2.out⟩
set_option maxRecDepth 100000 in
set_option maxHeartbeats 1000000 in
theorem kind60_any (K : Nat → Prop) (t p : Nat) (st : St) (k : Nat) (w : World) (h : PortIs K w t p st) (hk : k < 256) (hl : st.len ≤ 990000) :
    Calls Tryz.prog 114 #[wk t p, .int .u8 (k : Int)] w fun e w' => e = .returned (.int .u8 ((octP st k).1 : Int)) ∧ PortIs K w' t p (octP st k).2 ∧ Kept K w w' := by
  have hm := m_oct h.isT p
  have eg := e_oct h.isT
  obtain ⟨F, hF⟩ : ∃ F, ocF t = F := ⟨_, rfl⟩
  obtain ⟨W0, hW0⟩ : ∃ W0, w.alloc (.cells #[.iface t (.pointer (some ⟨p, 0, none⟩))] 89) = W0 := ⟨_, rfl⟩
  have C : Hid (Calls Tryz.prog F #[.pointer (some ⟨p, 0, none⟩), .int .u8 (k : Int)] W0 fun e w' => e = .returned (.int .u8 ((octP st k).1 : Int)) ∧ PortIs K w' t p (octP st k).2 ∧ Kept K w w') := by
    rw [← hF, ← hW0]
    exact (oct_any K t p st k _ (h.allocK _) hk hl).mono fun e w' ⟨h1, h2, h3⟩ => ⟨h1, h2, ((Kept.refl K w).alloc h.lt _).trans h3⟩
  have hr := octP_lt st k hk
  rw [hF] at hm eg
  have cw : W0.cell? ⟨w.heap.size, 0, none⟩ = some (.iface t (.pointer (some ⟨p, 0, none⟩))) := by rw [← hW0]; exact cellR (heap_alloc_new w _) rfl
  obtain ⟨⟨k1, st1⟩, hk1⟩ : ∃ q, octP st k = q := ⟨_, rfl⟩
  rw [hk1] at C hr ⊢
  simp only at C hr ⊢
  unfold wk
  clear h hl hF hk1
  go_enter Tryz.func114, Tryz.ntmps114
  go_wp2_with (go_at_fn F; refine C.out.mono ?_; rintro e w2 ⟨rfl, h1, h2⟩; have H2 : Hid (PortIs K w2 t p st1 ∧ Kept K w w2) := ⟨h1, h2⟩; clear h1 h2 C)
  go_ret
  exact ⟨rfl, H2.out⟩
set_option maxRecDepth 100000 in
set_option maxHeartbeats 1000000 in
theorem kind69_any (K : Nat → Prop) (t p : Nat) (st : St) (k : Nat) (w : World) (h : PortIs K w t p st) (hk : k < 256) (hl : st.len ≤ 990000) :
    Calls Tryz.prog 124 #[wk t p, .int .u8 (k : Int)] w fun e w' => e = .returned (.int .u8 ((octP st k).1 : Int)) ∧ PortIs K w' t p (octP st k).2 ∧ Kept K w w' := by
  have hm := m_oct h.isT p
  have eg := e_oct h.isT
  obtain ⟨F, hF⟩ : ∃ F, ocF t = F := ⟨_, rfl⟩
  obtain ⟨W0, hW0⟩ : ∃ W0, w.alloc (.cells #[.iface t (.pointer (some ⟨p, 0, none⟩))] 89) = W0 := ⟨_, rfl⟩
  have C : Hid (Calls Tryz.prog F #[.pointer (some ⟨p, 0, none⟩), .int .u8 (k : Int)] W0 fun e w' => e = .returned (.int .u8 ((octP st k).1 : Int)) ∧ PortIs K w' t p (octP st k).2 ∧ Kept K w w') := by
    rw [← hF, ← hW0]
    exact (oct_any K t p st k _ (h.allocK _) hk hl).mono fun e w' ⟨h1, h2, h3⟩ => ⟨h1, h2, ((Kept.refl K w).alloc h.lt _).trans h3⟩
  have hr := octP_lt st k hk
  rw [hF] at hm eg
  have cw : W0.cell? ⟨w.heap.size, 0, none⟩ = some (.iface t (.pointer (some ⟨p, 0, none⟩))) := by rw [← hW0]; exact cellR (heap_alloc_new w _) rfl
  obtain ⟨⟨k1, st1⟩, hk1⟩ : ∃ q, octP st k = q := ⟨_, rfl⟩
  rw [hk1] at C hr ⊢
  simp only at C hr ⊢
  unfold wk
  clear h hl hF hk1
  go_enter Tryz.func124, Tryz.ntmps124
  go_wp2_with (go_at_fn F; refine C.out.mono ?_; rintro e w2 ⟨rfl, h1, h2⟩; have H2 : Hid (PortIs K w2 t p st1 ∧ Kept K w w2) := ⟨h1, h2⟩; clear h1 h2 C)
  go_ret
  exact ⟨rfl, H2.out⟩
end Go.Proofs.YtgdjhkcllpkiiaaGreatDoor
