/- What the reader's functions answer. -/
import Derived.Test.YtajomnfeicfdlaaGreatDoorWcWdWe
import Derived.Test.YtajomnfeicfdlaaGreatDoorShelfE
namespace Go.Proofs.YtajomnfeicfdlaaGreatDoor
open Go.Shelf Go.RowKit Go.Lib
set_option linter.unusedVariables false
set_option linter.unusedSimpArgs false
attribute [local go_sem ↓] Go.wp_at_zero Go.wp_at_succ
theorem sclone_any (s : ByteArray) (w : World) (hlim : s.size ≤ 281474976710656) : Calls Tryz.prog 92 #[.string s] w fun e w' => e = .returned (.string s) ∧ Below w.heap.size w w' := Any.stringslite_Clone Tryz.laysM316 s w hlim
theorem clone_any (s : ByteArray) (w : World) (hlim : s.size ≤ 281474976710656) : Calls Tryz.prog 66 #[.string s] w fun e w' => e = .returned (.string s) ∧ Below w.heap.size w w' := by
 have C : Hid (Calls Tryz.prog 92 #[.string s] w fun e w' => e = .returned (.string s) ∧ Below w.heap.size w w') := sclone_any s w hlim
 go_enter Tryz.func66, Tryz.ntmps66
 go_wp2_with fail
 refine C.out.mono ?_
 rintro e w1 ⟨rfl, hb⟩
 go_wp2_with fail
 go_ret
 exact ⟨rfl, hb⟩
end Go.Proofs.YtajomnfeicfdlaaGreatDoor
/- What the reader's number and text answer. -/
namespace Go.Proofs.YtajomnfeicfdlaaGreatDoor
open Go.Shelf Go.RowKit Go.Lib
set_option linter.unusedVariables false
set_option linter.unusedSimpArgs false
attribute [local go_sem ↓] Go.wp_at_zero Go.wp_at_succ
set_option maxRecDepth 100000 in
theorem wrapU (n : Int) : IntKind.u64.wrap n = n % 18446744073709551616 := by
 have hs : IntKind.u64.signed = false := rfl
 have hb : IntKind.u64.bits = 64 := rfl
 have h2 : (2 ^ 64 : Int) = 18446744073709551616 := by decide
 unfold IntKind.wrap
 rw [hs, hb, h2]
 rfl
theorem acc_eq (acc b i : Nat) : IntKind.wrap .u64 ((acc : Int) + IntKind.wrap .u64 ((b : Int) % 128 * 2 ^ (7 * i))) = (((acc + b % 128 * 2 ^ (7 * i)) % 18446744073709551616 : Nat) : Int) := by
 rw [wrapU, wrapU]
 rw [Int.natCast_emod, Int.natCast_add, Int.natCast_mul, Int.natCast_emod, Int.natCast_pow, Int.add_emod_emod]
 rfl
end Go.Proofs.YtajomnfeicfdlaaGreatDoor
/- What any port's functions answer. -/
namespace Go.Proofs.YtajomnfeicfdlaaGreatDoor
open Go.Shelf Go.RowKit Go.Lib
set_option linter.unusedVariables false
set_option linter.unusedSimpArgs false
attribute [local go_sem ↓] Go.wp_at_zero Go.wp_at_succ
/-- Which functions a port of a type has. -/
def ocF (t : Nat) : Nat := if t = 117 then 184 else if t = 123 then 187 else 190
def nuF (t : Nat) : Nat := if t = 117 then 183 else if t = 123 then 186 else 189
def txF (t : Nat) : Nat := if t = 117 then 185 else if t = 123 then 188 else 191
theorem oct_any (K : Nat → Prop) (t p : Nat) (st : St) (k : Nat) (w : World) (h : PortIs K w t p st) (hk : k < 256) (hl : st.len ≤ 990000) :
  Calls Tryz.prog (ocF t) #[.pointer (some ⟨p, 0, none⟩), .int .u8 (k : Int)] w fun e w' => e = .returned (.int .u8 ((octP st k).1 : Int)) ∧ PortIs K w' t p (octP st k).2 ∧ Kept K w w' := by
 cases st using St.three with
 | wr b f => obtain rfl : t = 117 := h.is.1; exact octW_any K p b f k w h hk (by simp only [St.len] at hl; omega)
 | bl f => obtain rfl : t = 123 := h.is.1; exact octB_any K p f k w h hk
 | rd r f => exact h.is.2.elim
theorem num_any (K : Nat → Prop) (t p : Nat) (st : St) (n : Nat) (w : World) (h : PortIs K w t p st) (hk : n < 18446744073709551616) (hl : st.len ≤ 990000) :
  Calls Tryz.prog (nuF t) #[.pointer (some ⟨p, 0, none⟩), .int .u64 (n : Int)] w fun e w' => e = .returned (.int .u64 ((numP st n).1 : Int)) ∧ PortIs K w' t p (numP st n).2 ∧ Kept K w w' := by
 cases st using St.three with
 | wr b f => obtain rfl : t = 117 := h.is.1; exact numW_any K p b f n w h hk (by simp only [St.len] at hl; omega)
 | bl f => obtain rfl : t = 123 := h.is.1; exact numB_any K p f n w h
 | rd r f => exact h.is.2.elim
theorem txt_any (K : Nat → Prop) (t p : Nat) (st : St) (s : ByteArray) (w : World) (h : PortIs K w t p st) (hs : s.size ≤ 140737488355328) (hl : st.len ≤ 990000) :
  Calls Tryz.prog (txF t) #[.pointer (some ⟨p, 0, none⟩), .string s] w fun e w' => e = .returned (.string (txtP st s).1) ∧ PortIs K w' t p (txtP st s).2 ∧ Kept K w w' := by
 cases st using St.three with
 | wr b f =>
  obtain rfl : t = 117 := h.is.1
  refine (txtW_any K p b f s w h hs (by simp only [St.len] at hl; omega)).mono ?_
  rintro e w' ⟨rfl, h1, h2⟩
  by_cases hb : 2048 < s.size
  ·rw [if_pos hb] at h1
   have : txtP (.wr b f) s = (s, .wr b true) := by simp only [txtP]; rw [if_pos hb]
   rw [this]
   exact ⟨rfl, h1, h2⟩
  ·rw [if_neg hb] at h1
   have : txtP (.wr b f) s = (s, .wr (b ++ vn s.size ++ s.data.toList) f) := by simp only [txtP]; rw [if_neg hb]
   rw [this]
   exact ⟨rfl, h1, h2⟩
 | bl f => obtain rfl : t = 123 := h.is.1; exact txtB_any K p f s w h hs
 | rd r f => exact h.is.2.elim
theorem octP_lt (st : St) (k : Nat) (hk : k < 256) : (octP st k).1 < 256 := by
 cases st using St.three with
 | wr b f => exact hk
 | bl f => exact hk
 | rd r f =>
  simp only [octP]
  split
  ·show (0 : Nat) < 256; omega
  ·exact UInt8.toNat_lt _
theorem rnF_lt : ∀ k i acc st, (rnF k i acc st).1 < 18446744073709551616
 | 0, _, _, st => by show (0 : Nat) < _; omega
 | k + 1, i, acc, st => by
  simp only [rnF]
  split
  ·exact rnF_lt k (i + 1) _ _
  ·split
   ·show (0 : Nat) < _; omega
   ·exact Nat.mod_lt _ (by omega)
theorem numP_lt (st : St) (n : Nat) (hn : n < 18446744073709551616) : (numP st n).1 < 18446744073709551616 := by
 cases st using St.three with
 | wr b f => exact hn
 | bl f => exact hn
 | rd r f => exact rnF_lt 10 0 0 (.rd r f)
/-- A walk through a port. -/
def wk (t p : Nat) : Value := .agg #[.iface t (.pointer (some ⟨p, 0, none⟩))]
def isT (t : Nat) : Prop := t = 117 ∨ t = 123 ∨ t = 212
theorem PortIs.isT {K : Nat → Prop} {W : World} {t p : Nat} {st : St} (h : PortIs K W t p st) : isT t := by
 have := h.is
 cases st using St.three with
 | wr b f => exact .inl this.1
 | bl f => exact .inr (.inl this.1)
 | rd r f => exact this.2.elim
theorem m_oct {t : Nat} (h : isT t) (p : Nat) (w : World) : (method 360 t (.pointer (some ⟨p, 0, none⟩)) "potsherd/wire.octet").run Tryz.prog w = .ok (ocF t, .pointer (some ⟨p, 0, none⟩)) w := by
 rcases h with rfl | rfl | rfl <;> kernel_rfl
theorem m_num {t : Nat} (h : isT t) (p : Nat) (w : World) : (method 360 t (.pointer (some ⟨p, 0, none⟩)) "potsherd/wire.number").run Tryz.prog w = .ok (nuF t, .pointer (some ⟨p, 0, none⟩)) w := by
 rcases h with rfl | rfl | rfl <;> kernel_rfl
theorem m_txt {t : Nat} (h : isT t) (p : Nat) (w : World) : (method 360 t (.pointer (some ⟨p, 0, none⟩)) "potsherd/wire.text").run Tryz.prog w = .ok (txF t, .pointer (some ⟨p, 0, none⟩)) w := by
 rcases h with rfl | rfl | rfl <;> kernel_rfl
theorem m_fail {t : Nat} (h : isT t) (p : Nat) (w : World) : (method 360 t (.pointer (some ⟨p, 0, none⟩)) "potsherd/wire.fail").run Tryz.prog w = .ok (182, .pointer (some ⟨p, 0, none⟩)) w := by
 rcases h with rfl | rfl | rfl <;> kernel_rfl
theorem m_failed {t : Nat} (h : isT t) (p : Nat) (w : World) : (method 360 t (.pointer (some ⟨p, 0, none⟩)) "potsherd/wire.failed").run Tryz.prog w = .ok (fdF t, .pointer (some ⟨p, 0, none⟩)) w := by
 rcases h with rfl | rfl | rfl <;> kernel_rfl
theorem e_oct {t : Nat} (h : isT t) : ∀ args w, (callFunc (ocF t) args).run Tryz.prog w = .ok (.enter (ocF t) args) w := by
 rcases h with rfl | rfl | rfl
 ·exact enters_of Tryz.func184 (by kernel_rfl) rfl
 ·exact enters_of Tryz.func187 (by kernel_rfl) rfl
 ·exact enters_of Tryz.func190 (by kernel_rfl) rfl
theorem e_num {t : Nat} (h : isT t) : ∀ args w, (callFunc (nuF t) args).run Tryz.prog w = .ok (.enter (nuF t) args) w := by
 rcases h with rfl | rfl | rfl
 ·exact enters_of Tryz.func183 (by kernel_rfl) rfl
 ·exact enters_of Tryz.func186 (by kernel_rfl) rfl
 ·exact enters_of Tryz.func189 (by kernel_rfl) rfl
theorem e_txt {t : Nat} (h : isT t) : ∀ args w, (callFunc (txF t) args).run Tryz.prog w = .ok (.enter (txF t) args) w := by
 rcases h with rfl | rfl | rfl
 ·exact enters_of Tryz.func185 (by kernel_rfl) rfl
 ·exact enters_of Tryz.func188 (by kernel_rfl) rfl
 ·exact enters_of Tryz.func191 (by kernel_rfl) rfl
theorem e_failed {t : Nat} (h : isT t) : ∀ args w, (callFunc (fdF t) args).run Tryz.prog w = .ok (.enter (fdF t) args) w := by
 rcases h with rfl | rfl | rfl
 ·exact enters_of Tryz.func62 (by kernel_rfl) rfl
 ·exact enters_of Tryz.func63 (by kernel_rfl) rfl
 ·exact enters_of Tryz.func63 (by kernel_rfl) rfl
set_option maxRecDepth 100000 in
set_option maxHeartbeats 1000000 in
theorem kind13_any (K : Nat → Prop) (t p : Nat) (st : St) (k : Nat) (w : World) (h : PortIs K w t p st) (hk : k < 256) (hl : st.len ≤ 990000) :
  Calls Tryz.prog 89 #[wk t p, .int .u8 (k : Int)] w fun e w' => e = .returned (.int .u8 ((octP st k).1 : Int)) ∧ PortIs K w' t p (octP st k).2 ∧ Kept K w w' := by
 have hm := m_oct h.isT p
 have eg := e_oct h.isT
 obtain ⟨F, hF⟩ : ∃ F, ocF t = F := ⟨_, rfl⟩
 obtain ⟨W0, hW0⟩ : ∃ W0, w.alloc (.cells #[.iface t (.pointer (some ⟨p, 0, none⟩))] 129) = W0 := ⟨_, rfl⟩
 have C : Hid (Calls Tryz.prog F #[.pointer (some ⟨p, 0, none⟩), .int .u8 (k : Int)] W0 fun e w' => e = .returned (.int .u8 ((octP st k).1 : Int)) ∧ PortIs K w' t p (octP st k).2 ∧ Kept K w w') := by
  rw [← hF, ← hW0]
  exact (oct_any K t p st k _ (h.allocK _) hk hl).mono fun e w' ⟨h1, h2, h3⟩ => ⟨h1, h2, ((Kept.refl K w).alloc h.lt _).trans h3⟩
 have hr := octP_lt st k hk
 rw [hF] at hm eg
 have cw : W0.cell? ⟨w.heap.size, 0, none⟩ = some (.iface t (.pointer (some ⟨p, 0, none⟩))) := by rw [← hW0]; exact cellR (heap_alloc_new w _) rfl
 obtain ⟨⟨k1, st1⟩, hk1⟩ : ∃ q, octP st k = q := ⟨_, rfl⟩
 rw [hk1] at C hr ⊢
 simp only at C hr ⊢
 unfold wk
 clear h hl hF hk1
 go_enter Tryz.func89, Tryz.ntmps89
 go_wp2_with (go_at_fn F; refine C.out.mono ?_; rintro e w2 ⟨rfl, h1, h2⟩; have H2 : Hid (PortIs K w2 t p st1 ∧ Kept K w w2) := ⟨h1, h2⟩; clear h1 h2 C)
 go_ret
 exact ⟨rfl, H2.out⟩
set_option maxRecDepth 100000 in
set_option maxHeartbeats 1000000 in
theorem kind55_any (K : Nat → Prop) (t p : Nat) (st : St) (k : Nat) (w : World) (h : PortIs K w t p st) (hk : k < 256) (hl : st.len ≤ 990000) :
  Calls Tryz.prog 143 #[wk t p, .int .u8 (k : Int)] w fun e w' => e = .returned (.int .u8 ((octP st k).1 : Int)) ∧ PortIs K w' t p (octP st k).2 ∧ Kept K w w' := by
 have hm := m_oct h.isT p
 have eg := e_oct h.isT
 obtain ⟨F, hF⟩ : ∃ F, ocF t = F := ⟨_, rfl⟩
 obtain ⟨W0, hW0⟩ : ∃ W0, w.alloc (.cells #[.iface t (.pointer (some ⟨p, 0, none⟩))] 129) = W0 := ⟨_, rfl⟩
 have C : Hid (Calls Tryz.prog F #[.pointer (some ⟨p, 0, none⟩), .int .u8 (k : Int)] W0 fun e w' => e = .returned (.int .u8 ((octP st k).1 : Int)) ∧ PortIs K w' t p (octP st k).2 ∧ Kept K w w') := by
  rw [← hF, ← hW0]
  exact (oct_any K t p st k _ (h.allocK _) hk hl).mono fun e w' ⟨h1, h2, h3⟩ => ⟨h1, h2, ((Kept.refl K w).alloc h.lt _).trans h3⟩
 have hr := octP_lt st k hk
 rw [hF] at hm eg
 have cw : W0.cell? ⟨w.heap.size, 0, none⟩ = some (.iface t (.pointer (some ⟨p, 0, none⟩))) := by rw [← hW0]; exact cellR (heap_alloc_new w _) rfl
 obtain ⟨⟨k1, st1⟩, hk1⟩ : ∃ q, octP st k = q := ⟨_, rfl⟩
 rw [hk1] at C hr ⊢
 simp only at C hr ⊢
 unfold wk
 clear h hl hF hk1
 go_enter Tryz.func143, Tryz.ntmps143
 go_wp2_with (go_at_fn F; refine C.out.mono ?_; rintro e w2 ⟨rfl, h1, h2⟩; have H2 : Hid (PortIs K w2 t p st1 ∧ Kept K w w2) := ⟨h1, h2⟩; clear h1 h2 C)
 go_ret
 exact ⟨rfl, H2.out⟩
set_option maxRecDepth 100000 in
set_option maxHeartbeats 1000000 in
theorem kind58_any (K : Nat → Prop) (t p : Nat) (st : St) (k : Nat) (w : World) (h : PortIs K w t p st) (hk : k < 256) (hl : st.len ≤ 990000) :
  Calls Tryz.prog 146 #[wk t p, .int .u8 (k : Int)] w fun e w' => e = .returned (.int .u8 ((octP st k).1 : Int)) ∧ PortIs K w' t p (octP st k).2 ∧ Kept K w w' := by
 have hm := m_oct h.isT p
 have eg := e_oct h.isT
 obtain ⟨F, hF⟩ : ∃ F, ocF t = F := ⟨_, rfl⟩
 obtain ⟨W0, hW0⟩ : ∃ W0, w.alloc (.cells #[.iface t (.pointer (some ⟨p, 0, none⟩))] 129) = W0 := ⟨_, rfl⟩
 have C : Hid (Calls Tryz.prog F #[.pointer (some ⟨p, 0, none⟩), .int .u8 (k : Int)] W0 fun e w' => e = .returned (.int .u8 ((octP st k).1 : Int)) ∧ PortIs K w' t p (octP st k).2 ∧ Kept K w w') := by
  rw [← hF, ← hW0]
  exact (oct_any K t p st k _ (h.allocK _) hk hl).mono fun e w' ⟨h1, h2, h3⟩ => ⟨h1, h2, ((Kept.refl K w).alloc h.lt _).trans h3⟩
 have hr := octP_lt st k hk
 rw [hF] at hm eg
 have cw : W0.cell? ⟨w.heap.size, 0, none⟩ = some (.iface t (.pointer (some ⟨p, 0, none⟩))) := by rw [← hW0]; exact cellR (heap_alloc_new w _) rfl
 obtain ⟨⟨k1, st1⟩, hk1⟩ : ∃ q, octP st k = q := ⟨_, rfl⟩
 rw [hk1] at C hr ⊢
 simp only at C hr ⊢
 unfold wk
 clear h hl hF hk1
 go_enter Tryz.func146, Tryz.ntmps146
 go_wp2_with (go_at_fn F; refine C.out.mono ?_; rintro e w2 ⟨rfl, h1, h2⟩; have H2 : Hid (PortIs K w2 t p st1 ∧ Kept K w w2) := ⟨h1, h2⟩; clear h1 h2 C)
 go_ret
 exact ⟨rfl, H2.out⟩
set_option maxRecDepth 100000 in
set_option maxHeartbeats 1000000 in
theorem kind60_any (K : Nat → Prop) (t p : Nat) (st : St) (k : Nat) (w : World) (h : PortIs K w t p st) (hk : k < 256) (hl : st.len ≤ 990000) :
  Calls Tryz.prog 148 #[wk t p, .int .u8 (k : Int)] w fun e w' => e = .returned (.int .u8 ((octP st k).1 : Int)) ∧ PortIs K w' t p (octP st k).2 ∧ Kept K w w' := by
 have hm := m_oct h.isT p
 have eg := e_oct h.isT
 obtain ⟨F, hF⟩ : ∃ F, ocF t = F := ⟨_, rfl⟩
 obtain ⟨W0, hW0⟩ : ∃ W0, w.alloc (.cells #[.iface t (.pointer (some ⟨p, 0, none⟩))] 129) = W0 := ⟨_, rfl⟩
 have C : Hid (Calls Tryz.prog F #[.pointer (some ⟨p, 0, none⟩), .int .u8 (k : Int)] W0 fun e w' => e = .returned (.int .u8 ((octP st k).1 : Int)) ∧ PortIs K w' t p (octP st k).2 ∧ Kept K w w') := by
  rw [← hF, ← hW0]
  exact (oct_any K t p st k _ (h.allocK _) hk hl).mono fun e w' ⟨h1, h2, h3⟩ => ⟨h1, h2, ((Kept.refl K w).alloc h.lt _).trans h3⟩
 have hr := octP_lt st k hk
 rw [hF] at hm eg
 have cw : W0.cell? ⟨w.heap.size, 0, none⟩ = some (.iface t (.pointer (some ⟨p, 0, none⟩))) := by rw [← hW0]; exact cellR (heap_alloc_new w _) rfl
 obtain ⟨⟨k1, st1⟩, hk1⟩ : ∃ q, octP st k = q := ⟨_, rfl⟩
 rw [hk1] at C hr ⊢
 simp only at C hr ⊢
 unfold wk
 clear h hl hF hk1
 go_enter Tryz.func148, Tryz.ntmps148
 go_wp2_with (go_at_fn F; refine C.out.mono ?_; rintro e w2 ⟨rfl, h1, h2⟩; have H2 : Hid (PortIs K w2 t p st1 ∧ Kept K w w2) := ⟨h1, h2⟩; clear h1 h2 C)
 go_ret
 exact ⟨rfl, H2.out⟩
set_option maxRecDepth 100000 in
set_option maxHeartbeats 1000000 in
theorem kind69_any (K : Nat → Prop) (t p : Nat) (st : St) (k : Nat) (w : World) (h : PortIs K w t p st) (hk : k < 256) (hl : st.len ≤ 990000) :
  Calls Tryz.prog 157 #[wk t p, .int .u8 (k : Int)] w fun e w' => e = .returned (.int .u8 ((octP st k).1 : Int)) ∧ PortIs K w' t p (octP st k).2 ∧ Kept K w w' := by
 have hm := m_oct h.isT p
 have eg := e_oct h.isT
 obtain ⟨F, hF⟩ : ∃ F, ocF t = F := ⟨_, rfl⟩
 obtain ⟨W0, hW0⟩ : ∃ W0, w.alloc (.cells #[.iface t (.pointer (some ⟨p, 0, none⟩))] 129) = W0 := ⟨_, rfl⟩
 have C : Hid (Calls Tryz.prog F #[.pointer (some ⟨p, 0, none⟩), .int .u8 (k : Int)] W0 fun e w' => e = .returned (.int .u8 ((octP st k).1 : Int)) ∧ PortIs K w' t p (octP st k).2 ∧ Kept K w w') := by
  rw [← hF, ← hW0]
  exact (oct_any K t p st k _ (h.allocK _) hk hl).mono fun e w' ⟨h1, h2, h3⟩ => ⟨h1, h2, ((Kept.refl K w).alloc h.lt _).trans h3⟩
 have hr := octP_lt st k hk
 rw [hF] at hm eg
 have cw : W0.cell? ⟨w.heap.size, 0, none⟩ = some (.iface t (.pointer (some ⟨p, 0, none⟩))) := by rw [← hW0]; exact cellR (heap_alloc_new w _) rfl
 obtain ⟨⟨k1, st1⟩, hk1⟩ : ∃ q, octP st k = q := ⟨_, rfl⟩
 rw [hk1] at C hr ⊢
 simp only at C hr ⊢
 unfold wk
 clear h hl hF hk1
 go_enter Tryz.func157, Tryz.ntmps157
 go_wp2_with (go_at_fn F; refine C.out.mono ?_; rintro e w2 ⟨rfl, h1, h2⟩; have H2 : Hid (PortIs K w2 t p st1 ∧ Kept K w w2) := ⟨h1, h2⟩; clear h1 h2 C)
 go_ret
 exact ⟨rfl, H2.out⟩
end Go.Proofs.YtajomnfeicfdlaaGreatDoor
