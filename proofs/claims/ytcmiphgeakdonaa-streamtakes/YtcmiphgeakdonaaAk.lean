/- What CheckIn answers. -/
import Derived.Test.YtcmiphgeakdonaaAj
namespace Go.Proofs.Ytcmiphgeakdonaa
open Go.Shelf Go.RowKit Go.Lib
set_option linter.unusedVariables false
set_option linter.unusedSimpArgs false
attribute [local go_sem ↓] Go.wp_at_zero Go.wp_at_succ
/-- What CheckIn tells. -/
def inE (x : In_) : Int := if 512 < x.n then 6 else if 8 * x.n < x.r.length then 6 else if heldP x.n x.n false x.h = false then 6 else if x.d = false then 0 else if 0 < x.h.length then 6 else if x.n = 0 then 6 else 0
set_option maxRecDepth 100000 in
set_option maxHeartbeats 4000000 in
theorem checkIn_any (cs : List Value) (x : In_) (K : Nat → Prop) (w : World) (h : rIn K w cs x) (hK : ∀ b, K b → b < w.heap.size) :
    Calls Try.prog 21 #[.agg cs.toArray] w fun e w' => e = .returned (.int .i64 (inE x)) ∧ Below w.heap.size w w' := by
  obtain ⟨q, c, q2, c2, rfl, hok, hn64, hl, hcap, hby, hl2, hcap2, hby2⟩ := in_cells2 h
  obtain ⟨W0, hW0⟩ : ∃ W0, w.alloc (.cells #[.int .u64 (x.m.qb : Int), .int .u64 (x.m.qn : Int), .int .i64 x.m.at_, .int .i64 x.m.fr, .int .i64 x.m.tq, .int .u64 (x.n : Int), .slice q x.h.length c, .slice q2 x.r.length c2, .bool x.d] 68) = W0 := ⟨_, rfl⟩
  have hb0 : Below w.heap.size w W0 := by rw [← hW0]; exact (Below.refl _ _).alloc (Nat.le_refl _) _
  have hg0 : W0.heap[w.heap.size]? = some (.cells #[.int .u64 (x.m.qb : Int), .int .u64 (x.m.qn : Int), .int .i64 x.m.at_, .int .i64 x.m.fr, .int .i64 x.m.tq, .int .u64 (x.n : Int), .slice q x.h.length c, .slice q2 x.r.length c2, .bool x.d] 68 (0, 0)) := by rw [← hW0]; exact heap_alloc_new w _
  have hs0 : w.heap.size < W0.heap.size := (Array.getElem?_eq_some_iff.1 hg0).1
  have HV : Hid (∀ V, Below W0.heap.size W0 V → V.cell? ⟨w.heap.size, 5, none⟩ = some (.int .u64 (x.n : Int)) ∧ V.cell? ⟨w.heap.size, 6, none⟩ = some (.slice q x.h.length c) ∧ V.cell? ⟨w.heap.size, 8, none⟩ = some (.bool x.d) ∧ Below w.heap.size w V) := fun V hb => by
    have hbw : Below w.heap.size w V := hb0.trans (hb.mono hb0.size)
    exact ⟨(hb.cell (p := ⟨w.heap.size, 5, none⟩) hs0).trans (cell_of_row (k := 5) hg0 rfl), (hb.cell (p := ⟨w.heap.size, 6, none⟩) hs0).trans (cell_of_row (k := 6) hg0 rfl), (hb.cell (p := ⟨w.heap.size, 8, none⟩) hs0).trans (cell_of_row (k := 8) hg0 rfl), hbw⟩
  have c5 := cell_of_row (k := 5) (v := .int .u64 (x.n : Int)) hg0 rfl
  have c7 := cell_of_row (k := 7) (v := .slice q2 x.r.length c2) hg0 rfl
  have HRA : Hid (W0.rangeAt w.heap.size 0 [.int .u64 (x.m.qb : Int), .int .u64 (x.m.qn : Int), .int .i64 x.m.at_, .int .i64 x.m.fr, .int .i64 x.m.tq, .int .u64 (x.n : Int), .slice q x.h.length c, .slice q2 x.r.length c2, .bool x.d]) := fun j u hu => by rw [Nat.zero_add]; exact cell_of_row hg0 (by simpa using hu)
  have HB0 : Hid (Below w.heap.size w W0) := hb0
  have hr63 : x.r.length ≤ 5864062014806 := by omega
  have CH : Hid (x.n ≤ 512 → Calls Try.prog 43 #[.agg #[.int .u64 (x.m.qb : Int), .int .u64 (x.m.qn : Int), .int .i64 x.m.at_, .int .i64 x.m.fr, .int .i64 x.m.tq, .int .u64 (x.n : Int), .slice q x.h.length c, .slice q2 x.r.length c2, .bool x.d]] W0 fun e w' => e = .returned (.bool (heldP x.n x.n false x.h)) ∧ Below W0.heap.size W0 w') := fun hn => areHeld_any _ x K W0 (mIn _ _ _ _ _ _ (fun _ h => h) (kept_of hK hb0) h) hn (fun b hb => Nat.lt_of_lt_of_le (hK b hb) hb0.size)
  obtain ⟨r, hr⟩ : ∃ r, heldP x.n x.n false x.h = r := ⟨_, rfl⟩
  have HR : Hid (heldP x.n x.n false x.h = r) := hr
  rw [hr] at CH
  have hh63 : x.h.length ≤ 3518437208883 := by omega
  clear h hK hl hcap hby hb0 hg0 hs0 hr hl2 hcap2 hby2 hok
  by_cases h1 : 512 < x.n
  · have y1 : (512 : Int) < (x.n : Int) := by omega
    have HE : Hid (inE x = 6) := by show _ = _; unfold inE; rw [if_pos h1]
    clear h1 CH HV HR
    go_enter Try.func21, Try.ntmps21
    go_wp2_with fail
    go_ret
    exact ⟨by rw [HE.out]; rfl, HB0.out⟩
  · have y1 : ¬ (512 : Int) < (x.n : Int) := by omega
    have hm8 : (8 * (x.n : Int)) % 18446744073709551616 = 8 * (x.n : Int) := by omega
    have hm9 : (x.r.length : Int) % 18446744073709551616 = (x.r.length : Int) := by omega
    by_cases h2 : 8 * x.n < x.r.length
    · have y2 : 8 * (x.n : Int) < (x.r.length : Int) := by omega
      have HE : Hid (inE x = 6) := by show _ = _; unfold inE; rw [if_neg h1, if_pos h2]
      clear h1 h2 CH HV HR
      go_enter Try.func21, Try.ntmps21
      go_wp2_with fail
      go_ret
      exact ⟨by rw [HE.out]; rfl, HB0.out⟩
    · have y2 : ¬ 8 * (x.n : Int) < (x.r.length : Int) := by omega
      have CH2 := hid (CH.out (by omega))
      have HE0 : Hid (inE x = if r = false then 6 else if x.d = false then 0 else if 0 < x.h.length then 6 else if x.n = 0 then 6 else 0) := by show _ = _; unfold inE; rw [if_neg h1, if_neg h2, HR.out]
      clear h1 h2 CH HR
      go_enter Try.func21, Try.ntmps21
      go_wp2_with (refine wpList_load_mid rfl 68 _ rfl w.heap.size 0 rfl _ _ HRA.out Try.underlying68 rfl sz_In ?_)
      refine CH2.out.mono ?_
      rintro e w1 ⟨rfl, hb1⟩
      obtain ⟨d5, d6, d8, d7⟩ := HV.out w1 hb1
      have HB1 : Hid (Below w.heap.size w w1) := d7
      clear hb1 HV CH2 d7 c5 c7
      cases r with
      | false =>
        have HE : Hid (inE x = 6) := by show _ = _; rw [HE0.out]; rfl
        clear HE0
        go_wp2_with fail
        go_ret
        exact ⟨by rw [HE.out]; rfl, HB1.out⟩
      | true =>
        cases hd : x.d with
        | false =>
          have HE : Hid (inE x = 0) := by show _ = _; rw [HE0.out, hd]; rfl
          rw [hd] at d8
          clear HE0 hd
          go_wp2_with fail
          go_ret
          exact ⟨by rw [HE.out]; rfl, HB1.out⟩
        | true =>
          rw [hd] at d8
          by_cases h3 : 0 < x.h.length
          · have y3 : (0 : Int) < (x.h.length : Int) := by omega
            have y3c : decide ((0 : Int) < (x.h.length : Int)) = true := decide_eq_true (by omega)
            have y3d : decide (0 < x.h.length) = true := decide_eq_true (by omega)
            have HE : Hid (inE x = 6) := by show _ = _; rw [HE0.out, hd, if_neg (by simp), if_neg (by simp), if_pos h3]
            clear HE0 hd
            go_wp2_with fail
            go_ret
            exact ⟨by rw [HE.out]; rfl, HB1.out⟩
          · have y3 : ¬ (0 : Int) < (x.h.length : Int) := by omega
            have y3c : decide ((0 : Int) < (x.h.length : Int)) = false := decide_eq_false (by omega)
            have y3d : decide (0 < x.h.length) = false := decide_eq_false (by omega)
            by_cases h4 : x.n = 0
            · have y4 : ((x.n : Int) == 0) = true := by simp; omega
              have y4b : (x.n == 0) = true := by simp; omega
              have y4c : decide (x.n = 0) = true := decide_eq_true (by omega)
              have HE : Hid (inE x = 6) := by show _ = _; rw [HE0.out, hd, if_neg (by simp), if_neg (by simp), if_neg h3, if_pos h4]
              clear HE0 hd
              go_wp2_with fail
              go_ret
              exact ⟨by rw [HE.out]; rfl, HB1.out⟩
            · have y4 : ((x.n : Int) == 0) = false := beq_eq_false_iff_ne.2 (by omega)
              have y4b : (x.n == 0) = false := beq_eq_false_iff_ne.2 (by omega)
              have y4c : decide (x.n = 0) = false := decide_eq_false (by omega)
              have HE : Hid (inE x = 0) := by show _ = _; rw [HE0.out, hd, if_neg (by simp), if_neg (by simp), if_neg h3, if_neg h4]
              clear HE0 hd
              go_wp2_with fail
              go_ret
              exact ⟨by rw [HE.out]; rfl, HB1.out⟩
end Go.Proofs.Ytcmiphgeakdonaa
