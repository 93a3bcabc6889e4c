/- What the reader's functions answer. -/
import Derived.Test.YtgdjhkcllpkiiaaGreatDoorWdWe
import Derived.Test.YtgdjhkcllpkiiaaGreatDoorShelfE
namespace Go.Proofs.YtgdjhkcllpkiiaaGreatDoor
open Go.Shelf Go.RowKit Go.Lib
set_option linter.unusedVariables false
set_option linter.unusedSimpArgs false
attribute [local go_sem ↓] Go.wp_at_zero Go.wp_at_succ
theorem sclone_any (s : ByteArray) (w : World) (hlim : s.size ≤ 281474976710656) : Calls Tryz.prog 161 #[.string s] w fun e w' => e = .returned (.string s) ∧ Below w.heap.size w w' := Any.stringslite_Clone Tryz.laysM316 s w hlim
theorem clone_any (s : ByteArray) (w : World) (hlim : s.size ≤ 281474976710656) : Calls Tryz.prog 160 #[.string s] w fun e w' => e = .returned (.string s) ∧ Below w.heap.size w w' := by
  have C : Hid (Calls Tryz.prog 161 #[.string s] w fun e w' => e = .returned (.string s) ∧ Below w.heap.size w w') := sclone_any s w hlim
  go_enter Tryz.func160, Tryz.ntmps160
  go_wp2_with fail
  refine C.out.mono ?_
  rintro e w1 ⟨rfl, hb⟩
  go_wp2_with fail
  go_ret
  exact ⟨rfl, hb⟩
theorem rd_put {K : Nat → Prop} {W : World} {p : Nat} {r : ByteArray} {f : Bool} (h : PortIs K W 94 p (.rd r f)) (r' : ByteArray) (hr : r'.size ≤ 65536) : PortIs K (W.setCell ⟨p, 1, none⟩ (.string r')) 94 p (.rd r' f) ∧ Kept K W (W.setCell ⟨p, 1, none⟩ (.string r')) := by
  obtain ⟨hout, hlt, hu, _, hsz, hg⟩ := h
  exact ⟨⟨hout, fun b hb => by rw [set_size hg]; exact hlt b hb, fun e b hb hpb => (hu e b hb hpb).set, rfl, hr, set1_two hg _⟩, (Kept.refl K W).set hg _ hout⟩
set_option maxRecDepth 100000 in
set_option maxHeartbeats 1000000 in
theorem take_any (K : Nat → Prop) (p : Nat) (r : ByteArray) (f : Bool) (n : Nat) (w : World) (h : PortIs K w 94 p (.rd r f)) (hn : n ≤ 4096) :
    Calls Tryz.prog 159 #[.pointer (some ⟨p, 0, none⟩), .int .i64 (n : Int)] w fun e w' => e = .returned (.string (takeP r f n).1) ∧ PortIs K w' 94 p (takeP r f n).2 ∧ Kept K w w' := by
  have hsz : r.size ≤ 65536 := h.is.2.1
  have hg := h.is.2.2
  have c1 := cellR (k := 1) hg rfl
  have fz := frozen_zero hg 1
  by_cases hb : r.size < n
  · have HT : Hid (takeP r f n = (⟨#[]⟩, .rd r true)) := by show _ = _; unfold takeP; rw [if_pos hb]
    have C : Hid (Calls Tryz.prog 149 #[.pointer (some ⟨p, 0, none⟩)] w fun e w' => e = .returned (.tuple #[]) ∧ PortIs K w' 94 p (.rd r true) ∧ Kept K w w') := fail_any K 94 p (.rd r f) w h
    have z0 : (r.size : Int) < (n : Int) := by omega
    clear h hg hb
    go_enter Tryz.func159, Tryz.ntmps159
    go_wp2_with fail
    refine C.out.mono ?_
    rintro e w1 ⟨rfl, h1, h2⟩
    have H1 : Hid (PortIs K w1 94 p (.rd r true) ∧ Kept K w w1) := ⟨h1, h2⟩
    clear h1 h2 C
    go_wp2_with fail
    go_ret
    exact ⟨by rw [HT.out]; rfl, by rw [HT.out]; exact H1.out⟩
  · have HT : Hid (takeP r f n = (r.extract 0 n, .rd (r.extract n r.size) f)) := by show _ = _; unfold takeP; rw [if_neg hb]
    have HP : Hid (PortIs K (w.setCell ⟨p, 1, none⟩ (.string (r.extract n r.size))) 94 p (.rd (r.extract n r.size) f) ∧ Kept K w (w.setCell ⟨p, 1, none⟩ (.string (r.extract n r.size)))) := rd_put h _ (by rw [ByteArray.size_extract]; omega)
    have z0 : ¬ (r.size : Int) < (n : Int) := by omega
    have z1 : (n : Int) ≤ (r.size : Int) := by omega
    have z2 : n ≤ r.size := by omega
    clear h hg hb
    go_enter Tryz.func159, Tryz.ntmps159
    go_wp2_with fail
    go_ret
    exact ⟨by rw [HT.out]; rfl, by rw [HT.out]; exact HP.out⟩
set_option maxRecDepth 100000 in
set_option maxHeartbeats 1000000 in
theorem octR_any (K : Nat → Prop) (p : Nat) (r : ByteArray) (f : Bool) (k : Nat) (w : World) (h : PortIs K w 94 p (.rd r f)) :
    Calls Tryz.prog 157 #[.pointer (some ⟨p, 0, none⟩), .int .u8 (k : Int)] w fun e w' => e = .returned (.int .u8 ((octP (.rd r f) k).1 : Int)) ∧ PortIs K w' 94 p (octP (.rd r f) k).2 ∧ Kept K w w' := by
  have C : Hid (Calls Tryz.prog 159 #[.pointer (some ⟨p, 0, none⟩), .int .i64 1] w fun e w' => e = .returned (.string (takeP r f 1).1) ∧ PortIs K w' 94 p (takeP r f 1).2 ∧ Kept K w w') := take_any K p r f 1 w h (by omega)
  by_cases hb : r.size < 1
  · have hT : takeP r f 1 = (⟨#[]⟩, .rd r true) := by unfold takeP; rw [if_pos hb]
    have HO : Hid (octP (.rd r f) k = (0, .rd r true)) := by show _ = _; simp only [octP]; rw [if_pos hb]
    rw [hT] at C
    clear h hT hb
    go_enter Tryz.func157, Tryz.ntmps157
    go_wp2_with fail
    refine C.out.mono ?_
    rintro e w1 ⟨rfl, h1, h2⟩
    have H1 : Hid (PortIs K w1 94 p (.rd r true) ∧ Kept K w w1) := ⟨h1, h2⟩
    clear h1 h2 C
    go_wp2_with fail
    go_ret
    exact ⟨by rw [HO.out]; rfl, by rw [HO.out]; exact H1.out⟩
  · have hT : takeP r f 1 = (r.extract 0 1, .rd (r.extract 1 r.size) f) := by unfold takeP; rw [if_neg hb]
    have HO : Hid (octP (.rd r f) k = (((r.extract 0 1).data[0]?.getD 0).toNat, .rd (r.extract 1 r.size) f)) := by show _ = _; simp only [octP]; rw [if_neg hb]
    rw [hT] at C
    obtain ⟨s, hs⟩ : ∃ s, r.extract 0 1 = s := ⟨_, rfl⟩
    have hs1 : s.size = 1 := by rw [← hs, ByteArray.size_extract]; omega
    rw [hs] at C HO
    obtain ⟨x, rfl⟩ : ∃ x, s = ⟨#[x]⟩ := by
      cases s with
      | mk a =>
        cases a with
        | mk l =>
          match l, hs1 with
          | [x], _ => exact ⟨x, rfl⟩
    clear h hT hb hs hs1
    go_enter Tryz.func157, Tryz.ntmps157
    go_wp2_with fail
    refine C.out.mono ?_
    rintro e w1 ⟨rfl, h1, h2⟩
    have H1 : Hid (PortIs K w1 94 p (.rd (r.extract 1 r.size) f) ∧ Kept K w w1) := ⟨h1, h2⟩
    clear h1 h2 C
    go_wp2_with fail
    go_ret
    exact ⟨by rw [HO.out]; rfl, by rw [HO.out]; exact H1.out⟩
end Go.Proofs.YtgdjhkcllpkiiaaGreatDoor
