/- Batches that are held: what areHeld answers. -/
import Derived.Test.YtcmiphgeakdonaaAi
namespace Go.Proofs.Ytcmiphgeakdonaa
open Go.Shelf Go.RowKit Go.Lib
set_option linter.unusedVariables false
set_option linter.unusedSimpArgs false
attribute [local go_sem ↓] Go.wp_at_zero Go.wp_at_succ
/-- The cells of one of the batches that are held. -/
theorem bat_at {K : Nat → Prop} {w : World} {q : Option Addr} {n c : Nat} {bs : List Bat} (h : ListIs rBat 3 40 K w (.slice q n c) bs) (i : Nat) (hi : i < bs.length) : ∃ b o p c', q = some ⟨b, o, none⟩ ∧ K b ∧ w.cell? ⟨b, o + i * 3, none⟩ = some (.int .u64 (bs[i].s : Int)) ∧ w.cell? ⟨b, o + i * 3 + 1, none⟩ = some (.bool bs[i].l) ∧ w.cell? ⟨b, o + i * 3 + 2, none⟩ = some (.slice p bs[i].r.length c') ∧ bs[i].s < 18446744073709551616 ∧ ListIs rRow 1 24 K w (.slice p bs[i].r.length c') bs[i].r := by
  obtain ⟨q', c', e, _, hp⟩ := h
  obtain ⟨b, o, rfl, hKb, hc⟩ := hp (by omega)
  cases e
  obtain ⟨cs, _, hcell, v, rfl, h1, hl⟩ := hc i hi
  obtain ⟨p, cc, rfl, _⟩ := id hl
  exact ⟨b, o, p, cc, rfl, hKb, by simpa using hcell 0 _ rfl, hcell 1 _ rfl, hcell 2 _ rfl, h1, hl⟩
/-- Whether batches may be held behind one with the number bf. -/
def heldP (n : Nat) : Nat → Bool → List Bat → Bool
  | _, _, [] => true
  | bf, pl, b :: bs => if b.s ≤ bf then false else if n + 4 ≤ b.s then false else if 8 < b.r.length then false else if pl = true then false else heldP n b.s b.l bs
theorem in_cells2 {K : Nat → Prop} {w : World} {cs : List Value} {x : In_} (h : rIn K w cs x) : ∃ q c q2 c2, cs = [.int .u64 (x.m.qb : Int), .int .u64 (x.m.qn : Int), .int .i64 x.m.at_, .int .i64 x.m.fr, .int .i64 x.m.tq, .int .u64 (x.n : Int), .slice q x.h.length c, .slice q2 x.r.length c2, .bool x.d] ∧ okS x.m ∧ x.n < 18446744073709551616 ∧ ListIs rBat 3 40 K w (.slice q x.h.length c) x.h ∧ x.h.length ≤ c ∧ x.h.length * 40 ≤ 140737488355328 ∧ ListIs rRow 1 24 K w (.slice q2 x.r.length c2) x.r ∧ x.r.length ≤ c2 ∧ x.r.length * 24 ≤ 140737488355328 := by
  obtain ⟨v, u, rfl, ⟨h1, h2⟩, h3, h4⟩ := h
  obtain ⟨q, c, rfl, h5, _⟩ := id h3
  obtain ⟨q2, c2, rfl, h6, _⟩ := id h4
  exact ⟨q, c, q2, c2, rfl, h1, h2, h3, h5.2, h5.1, h4, h6.2, h6.1⟩
set_option maxRecDepth 100000 in
set_option maxHeartbeats 4000000 in
theorem areHeld_any (cs : List Value) (x : In_) (K : Nat → Prop) (w : World) (h : rIn K w cs x) (hn : x.n ≤ 512) (hK : ∀ b, K b → b < w.heap.size) :
    Calls Try.prog 43 #[.agg cs.toArray] w fun e w' => e = .returned (.bool (heldP x.n x.n false x.h)) ∧ Below w.heap.size w w' := by
  obtain ⟨q, c, q2, c2, rfl, _, _, hl, hcap, hby, _, _, _⟩ := in_cells2 h
  obtain ⟨W0, hW0⟩ : ∃ W0, w.alloc (.cells #[.int .u64 (x.m.qb : Int), .int .u64 (x.m.qn : Int), .int .i64 x.m.at_, .int .i64 x.m.fr, .int .i64 x.m.tq, .int .u64 (x.n : Int), .slice q x.h.length c, .slice q2 x.r.length c2, .bool x.d] 68) = W0 := ⟨_, rfl⟩
  have hb0 : Below w.heap.size w W0 := by rw [← hW0]; exact (Below.refl _ _).alloc (Nat.le_refl _) _
  have hg0 : W0.heap[w.heap.size]? = some (.cells #[.int .u64 (x.m.qb : Int), .int .u64 (x.m.qn : Int), .int .i64 x.m.at_, .int .i64 x.m.fr, .int .i64 x.m.tq, .int .u64 (x.n : Int), .slice q x.h.length c, .slice q2 x.r.length c2, .bool x.d] 68 (0, 0)) := by rw [← hW0]; exact heap_alloc_new w _
  have hs0 : w.heap.size < W0.heap.size := (Array.getElem?_eq_some_iff.1 hg0).1
  have HV : Hid (∀ V, Below W0.heap.size W0 V → V.cell? ⟨w.heap.size, 5, none⟩ = some (.int .u64 (x.n : Int)) ∧ V.cell? ⟨w.heap.size, 6, none⟩ = some (.slice q x.h.length c) ∧ Below w.heap.size w V ∧ ListIs rBat 3 40 K V (.slice q x.h.length c) x.h) := fun V hb => by
    have hbw : Below w.heap.size w V := hb0.trans (hb.mono hb0.size)
    exact ⟨(hb.cell (p := ⟨w.heap.size, 5, none⟩) hs0).trans (cell_of_row (k := 5) hg0 rfl), (hb.cell (p := ⟨w.heap.size, 6, none⟩) hs0).trans (cell_of_row (k := 6) hg0 rfl), hbw, hl.mono mBat (fun _ h => h) (kept_of hK hbw)⟩
  have c5 := cell_of_row (k := 5) (v := .int .u64 (x.n : Int)) hg0 rfl
  have c6 := cell_of_row (k := 6) (v := .slice q x.h.length c) hg0 rfl
  have hx63 : x.h.length ≤ 3518437208883 := by omega
  obtain ⟨r, hr⟩ : ∃ r, heldP x.n x.n false x.h = r := ⟨_, rfl⟩
  have HR : Hid (heldP x.n x.n false x.h = r) := hr
  rw [hr]
  clear h hK hl hcap hby hb0 hg0 hs0 hr
  go_enter Try.func43, Try.ntmps43
  go_wp2_with fail
  go_loopg [3, 12] x.h.length (fun gf s3 s12 wx => ∃ (i bf : Nat) (pl : Bool), s3 = .int .u64 (bf : Int) ∧ s12 = .int .i64 i ∧ i ≤ x.h.length ∧ x.h.length ≤ i + gf ∧ bf < 18446744073709551616 ∧ Hid (Below W0.heap.size W0 wx) ∧ Hid (heldP x.n bf pl (x.h.drop i) = r) ∧ Hid ((i = 0 ∧ pl = false) ∨ ∃ j, ∃ hj : j < x.h.length, i = j + 1 ∧ x.h[j].l = pl))
  case atStart => exact ⟨0, x.n, false, rfl, rfl, by omega, by omega, by omega, Below.refl _ _, HR.out, .inl ⟨rfl, rfl⟩⟩
  case round =>
    obtain ⟨i, bf, pl, rfl, rfl, hi1, hgf, hbf, HB, HE, HP⟩ := hrel
    clear c5 c6
    obtain ⟨d5, d6, d7, d8⟩ := HV.out wr HB.out
    by_cases hi : i < x.h.length
    · obtain ⟨g', rfl⟩ : ∃ g', gk = g' + 1 := ⟨gk - 1, by omega⟩
      obtain ⟨b, o, p, cc, rfl, hKb, e0, e1, e2, hsz, hrr⟩ := bat_at d8 i hi
      have hdr : x.h.drop i = x.h[i] :: x.h.drop (i + 1) := List.drop_eq_getElem_cons hi
      obtain ⟨y, hy⟩ : ∃ y, x.h[i] = y := ⟨_, rfl⟩
      have HY : Hid (x.h[i] = y) := hy
      rw [hy] at e0 e1 e2 hsz hdr hrr
      have hyl : y.r.length ≤ 140737488355328 := by obtain ⟨_, _, _, h9, _⟩ := hrr; omega
      have HE2 : Hid ((if y.s ≤ bf then false else if x.n + 4 ≤ y.s then false else if 8 < y.r.length then false else if pl = true then false else heldP x.n y.s y.l (x.h.drop (i + 1))) = r) := by have := HE.out; rw [hdr] at this; exact this
      have z0 : (0 : Int) ≤ (i : Int) := by omega
      have z1 : (i : Int) < (x.h.length : Int) := by omega
      have HD : Hid (Below w.heap.size w wr) := d7
      have hn4 : ((x.n : Int) + 4) % 18446744073709551616 = (x.n : Int) + 4 := by omega
      have hbN : Hid (Below W0.heap.size W0 (wr.alloc (.cells #[.int .u64 (y.s : Int), .bool y.l, .slice p y.r.length cc] 91))) := HB.out.alloc HB.out.size _
      obtain ⟨f5, f6, f7, _⟩ := HV.out _ hbN.out
      have HF7 : Hid (Below w.heap.size w (wr.alloc (.cells #[.int .u64 (y.s : Int), .bool y.l, .slice p y.r.length cc] 91))) := f7
      clear hdr hrr d7 d8 HE hKb hy f7
      have HQ : Hid ((i = 0 ∧ pl = false) ∨ ∃ j, ∃ hj : j < x.h.length, i = j + 1 ∧ (wr.alloc (.cells #[.int .u64 (y.s : Int), .bool y.l, .slice p y.r.length cc] 91)).cell? ⟨b, o + j * 3 + 1, none⟩ = some (.bool pl)) := by
        rcases HP.out with ⟨h1, h2⟩ | ⟨j, hj, h1, h2⟩
        · exact .inl ⟨h1, h2⟩
        · refine .inr ⟨j, hj, h1, ?_⟩
          obtain ⟨_, _, _, d8⟩ := HV.out _ hbN.out
          obtain ⟨b', o', _, _, eq, _, _, e1', _⟩ := bat_at d8 j hj
          cases eq
          rw [h2] at e1'
          exact e1'
      clear HP
      rcases HQ.out with ⟨rfl, rfl⟩ | ⟨j, hj, rfl, hcl⟩
      · clear HQ
        simp only [Nat.zero_mul, Nat.add_zero, Nat.zero_add] at e0 e1 e2
        by_cases h1 : y.s ≤ bf
        · have y1 : (y.s : Int) ≤ (bf : Int) := by omega
          have HT : Hid (r = false) := by have := HE2.out; rw [if_pos h1] at this; exact this.symm
          clear h1 HE2
          go_wp2_with fail
          go_ret
          exact ⟨by rw [HT.out]; rfl, HF7.out⟩
        · have y1 : ¬ (y.s : Int) ≤ (bf : Int) := by omega
          by_cases h2 : x.n + 4 ≤ y.s
          · have y2 : (x.n : Int) + 4 ≤ (y.s : Int) := by omega
            have HT : Hid (r = false) := by have := HE2.out; rw [if_neg h1, if_pos h2] at this; exact this.symm
            clear h1 h2 HE2
            go_wp2_with fail
            go_ret
            exact ⟨by rw [HT.out]; rfl, HF7.out⟩
          · have y2 : ¬ (x.n : Int) + 4 ≤ (y.s : Int) := by omega
            by_cases h3 : 8 < y.r.length
            · have y3 : (8 : Int) < (y.r.length : Int) := by omega
              have HT : Hid (r = false) := by have := HE2.out; rw [if_neg h1, if_neg h2, if_pos h3] at this; exact this.symm
              clear h1 h2 h3 HE2
              go_wp2_with fail
              go_ret
              exact ⟨by rw [HT.out]; rfl, HF7.out⟩
            · have y3 : ¬ (8 : Int) < (y.r.length : Int) := by omega
              have HT : Hid (heldP x.n y.s y.l (x.h.drop (0 + 1)) = r) := by have := HE2.out; rw [if_neg h1, if_neg h2, if_neg h3] at this; exact this
              clear h1 h2 h3 HE2
              go_wp2_with fail
              go_roundg g'
              case measure => omega
              case rel => exact ⟨0 + 1, y.s, y.l, rfl, by go_num, by omega, by omega, hsz, hbN, HT, .inr ⟨0, hi, rfl, congrArg Bat.l HY.out⟩⟩
      · clear HQ
        have z2 : (j : Int) < (x.h.length : Int) := by omega
        have z3 : (0 : Int) < (j : Int) + 1 := by omega
        have z4 : (0 : Int) ≤ (j : Int) := by omega
        by_cases h1 : y.s ≤ bf
        · have y1 : (y.s : Int) ≤ (bf : Int) := by omega
          have HT : Hid (r = false) := by have := HE2.out; rw [if_pos h1] at this; exact this.symm
          clear h1 HE2
          go_wp2_with fail
          go_ret
          exact ⟨by rw [HT.out]; rfl, HF7.out⟩
        · have y1 : ¬ (y.s : Int) ≤ (bf : Int) := by omega
          by_cases h2 : x.n + 4 ≤ y.s
          · have y2 : (x.n : Int) + 4 ≤ (y.s : Int) := by omega
            have HT : Hid (r = false) := by have := HE2.out; rw [if_neg h1, if_pos h2] at this; exact this.symm
            clear h1 h2 HE2
            go_wp2_with fail
            go_ret
            exact ⟨by rw [HT.out]; rfl, HF7.out⟩
          · have y2 : ¬ (x.n : Int) + 4 ≤ (y.s : Int) := by omega
            by_cases h3 : 8 < y.r.length
            · have y3 : (8 : Int) < (y.r.length : Int) := by omega
              have HT : Hid (r = false) := by have := HE2.out; rw [if_neg h1, if_neg h2, if_pos h3] at this; exact this.symm
              clear h1 h2 h3 HE2
              go_wp2_with fail
              go_ret
              exact ⟨by rw [HT.out]; rfl, HF7.out⟩
            · have y3 : ¬ (8 : Int) < (y.r.length : Int) := by omega
              cases pl with
              | true =>
                have HT : Hid (r = false) := by have := HE2.out; rw [if_neg h1, if_neg h2, if_neg h3] at this; exact this.symm
                clear h1 h2 h3 HE2
                go_wp2_with fail
                go_ret
                exact ⟨by rw [HT.out]; rfl, HF7.out⟩
              | false =>
                have HT : Hid (heldP x.n y.s y.l (x.h.drop ((j + 1) + 1)) = r) := by have := HE2.out; rw [if_neg h1, if_neg h2, if_neg h3] at this; exact this
                clear h1 h2 h3 HE2
                go_wp2_with fail
                go_roundg g'
                case measure => omega
                case rel => exact ⟨(j + 1) + 1, y.s, y.l, rfl, by go_num, by omega, by omega, hsz, hbN, HT, .inr ⟨(j + 1), hi, rfl, congrArg Bat.l HY.out⟩⟩
    · have z1 : ¬ (i : Int) < (x.h.length : Int) := by omega
      have HT : Hid (r = true) := by
        have := HE.out
        rw [List.drop_of_length_le (by omega)] at this
        exact this.symm
      have HD : Hid (Below w.heap.size w wr) := d7
      clear HE HP d7 d8
      go_wp2_with fail
      go_ret
      exact ⟨by rw [HT.out]; rfl, HD.out⟩
end Go.Proofs.Ytcmiphgeakdonaa
