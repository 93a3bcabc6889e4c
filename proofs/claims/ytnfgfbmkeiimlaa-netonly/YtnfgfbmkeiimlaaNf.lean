/- Lists of packets that are put together: what slices.Concat answers. -/
import Derived.Test.YtnfgfbmkeiimlaaNe
namespace Go.Proofs.Ytnfgfbmkeiimlaa
open Go.Shelf Go.RowKit Go.Lib Go.Sort
set_option linter.unusedVariables false
set_option linter.unusedSimpArgs false
attribute [local go_sem ↓] Go.wp_at_zero Go.wp_at_succ
/-- Lists of packets that lie in memory. -/
def LsL (W : World) (v : Value) (ls : List (Value × List PK)) : Prop :=
  ∃ b o c, v = .slice (some ⟨b, o, none⟩) ls.length c ∧ b < W.heap.size ∧ ls.length ≤ 1000 ∧ ∀ j (h : j < ls.length), W.cell? ⟨b, o + j, none⟩ = some ls[j].1 ∧ PsL W ls[j].1 ls[j].2
theorem LsL.below {W W' : World} {v : Value} {ls : List (Value × List PK)} (h : LsL W v ls) (hb : Below W.heap.size W W') : LsL W' v ls := by
  obtain ⟨b, o, c, rfl, hlt, h1, h2⟩ := h
  refine ⟨b, o, c, rfl, Nat.lt_of_lt_of_le hlt hb.size, h1, fun j hj => ?_⟩
  rw [hb.cell (p := ⟨b, _, none⟩) hlt]
  exact ⟨(h2 j hj).1, (h2 j hj).2.below hb⟩
def allP (ls : List (Value × List PK)) : List PK := ls.flatMap (·.2)
theorem allP_step (ls : List (Value × List PK)) (i : Nat) (h : i < ls.length) : allP (ls.take (i + 1)) = allP (ls.take i) ++ ls[i].2 := by
  unfold allP; rw [List.take_succ_eq_append_getElem h, List.flatMap_append]; simp
theorem allP_le (ls : List (Value × List PK)) (i : Nat) : (allP (ls.take i)).length ≤ (allP ls).length := by
  have : allP ls = allP (ls.take i) ++ allP (ls.drop i) := by unfold allP; rw [← List.flatMap_append, List.take_append_drop]
  rw [this, List.length_append]; omega
set_option maxHeartbeats 4000000 in
set_option maxRecDepth 100000 in
theorem concat_any (v : Value) (ls : List (Value × List PK)) (w : World) (h : LsL w v ls) (hm : (allP ls).length * 32 ≤ 140737488355328) :
    Calls Try.prog 32 #[v] w fun e w' => ∃ u, e = .returned u ∧ OwnP w.heap.size w' u (allP ls) ∧ Below w.heap.size w w' := by
  have HL : Hid (LsL w v ls) := h
  have CG : Hid (∀ (n : Nat) (W : World), n * 32 ≤ 140737488355328 → Calls Try.prog 35 #[.slice none 0 0, .int .i64 n] W fun e w' => ∃ u, e = .returned u ∧ OwnP W.heap.size w' u [] ∧ Below W.heap.size W w') := grow_any
  obtain ⟨b, o, c, rfl, hlt, h1000, hcell⟩ := h
  have HC : Hid (∀ W, Below w.heap.size w W → ∀ j (h : j < ls.length), W.cell? ⟨b, o + j, none⟩ = some ls[j].1 ∧ PsL W ls[j].1 ls[j].2) := fun W hb j hj => by
    rw [hb.cell (p := ⟨b, _, none⟩) hlt]
    exact ⟨(hcell j hj).1, (hcell j hj).2.below hb⟩
  obtain ⟨N, hN⟩ : ∃ N, (allP ls).length = N := ⟨_, rfl⟩
  have HLE : Hid (∀ i, (allP (ls.take i)).length ≤ N) := fun i => by rw [← hN]; exact allP_le ls i
  have HNN : Hid ((allP ls).length = N) := hN
  rw [hN] at hm
  clear hcell hN
  go_enter Try.func32, Try.ntmps32
  go_wp2_with fail
  go_loopg [3, 11] ls.length (fun gf s3 s8 wx => ∃ (i n : Nat), s3 = .int .i64 n ∧ s8 = .int .i64 i ∧ i ≤ ls.length ∧ ls.length ≤ i + gf ∧ n ≤ N ∧ Hid (n = (allP (ls.take i)).length) ∧ Hid (Below w.heap.size w wx))
  case atStart => exact ⟨0, 0, rfl, rfl, by omega, by omega, by omega, (show _ = _ from rfl), Below.refl _ _⟩
  case round =>
    obtain ⟨i, n, rfl, rfl, hi1, hgf, hnN, HN, HB⟩ := hrel
    by_cases hi : i < ls.length
    · obtain ⟨g', rfl⟩ : ∃ g', gk = g' + 1 := ⟨gk - 1, by omega⟩
      obtain ⟨c0, hP⟩ := HC.out _ HB.out i hi
      have hst := congrArg List.length (allP_step ls i hi)
      have hle := HLE.out (i + 1)
      obtain ⟨⟨u, us⟩, hf⟩ : ∃ f, ls[i] = f := ⟨_, rfl⟩
      rw [hf] at c0 hst hP
      rw [List.length_append, ← HN.out] at hst
      simp only at c0 hst hP
      obtain ⟨p, cc, rfl, _⟩ := hP
      have z0 : (0 : Int) ≤ (i : Int) := by omega
      have z1 : (i : Int) < (ls.length : Int) := by omega
      have q1 : IntKind.i64.wrap ((n : Int) + (us.length : Int)) = (n : Int) + (us.length : Int) := by rw [IntKind.wrap_i64]; omega
      have q2 : ¬ ((n : Int) + (us.length : Int) < 0) := by omega
      have HN2 : Hid (n + us.length = (allP (ls.take (i + 1))).length) := hst.symm
      have hn2 : n + us.length ≤ N := by rw [hst] at hle; exact hle
      clear hst hle hf HN
      go_wp2_with fail
      go_roundg g'
      case measure => omega
      case rel => exact ⟨i + 1, n + us.length, by go_num, by go_num, by omega, by omega, hn2, HN2, HB⟩
    · have z1 : ¬ (i : Int) < (ls.length : Int) := by omega
      have CGn := CG.out n wr (by omega)
      have HB1 : Hid (Below w.heap.size w wr) := HB.out
      clear HN HB
      go_wp2_with fail
      refine CGn.mono ?_
      rintro e w1 ⟨u0, rfl, ho1, hb1⟩
      have HO1 : Hid (OwnP w.heap.size w1 u0 [] ∧ Below w.heap.size w w1) := ⟨by
        obtain ⟨hl, ⟨rfl, hn⟩ | ⟨g, cap, cur, rfl, h1, r⟩⟩ := ho1
        · exact ⟨hl, .inl ⟨rfl, hn⟩⟩
        · exact ⟨hl, .inr ⟨g, cap, cur, rfl, Nat.le_trans HB1.out.size h1, r⟩⟩, HB1.out.trans (hb1.mono HB1.out.size)⟩
      clear CGn ho1 hb1 HB1 hnN
      obtain ⟨i0, hi0, hz0', hz1', hz2'⟩ := info30
      go_wp2_with fail
      go_loopg [6, 27] ls.length (fun gf s6 s8 wx => ∃ (i : Nat) (u : Value), u = s6 ∧ s8 = .int .i64 i ∧ i ≤ ls.length ∧ ls.length ≤ i + gf ∧ Hid (OwnP w.heap.size wx u (allP (ls.take i)) ∧ Below w.heap.size w wx))
      case atStart => exact ⟨0, u0, rfl, rfl, by omega, by omega, HO1⟩
      case round =>
        clear HO1
        obtain ⟨i, u, rfl, rfl, hi1, hgf, HO⟩ := hrel
        by_cases hi : i < ls.length
        · obtain ⟨g', rfl⟩ : ∃ g', gk = g' + 1 := ⟨gk - 1, by omega⟩
          obtain ⟨c0, hP⟩ := HC.out _ HO.out.2 i hi
          have hst := allP_step ls i hi
          have hle := HLE.out (i + 1)
          obtain ⟨⟨v, us⟩, hf⟩ : ∃ f, ls[i] = f := ⟨_, rfl⟩
          rw [hf] at c0 hst hP
          simp only at c0 hst hP
          have HST : Hid (allP (ls.take (i + 1)) = allP (ls.take i) ++ us) := hst
          have z0 : (0 : Int) ≤ (i : Int) := by omega
          have z1 : (i : Int) < (ls.length : Int) := by omega
          obtain ⟨p, cc, rfl, hlc, hcc, hl, hs, hn, hp⟩ := hP
          have hown := HO.out.1
          unfold OwnP at hown
          have hlen : (allP (ls.take i)).length + us.length ≤ N := by rw [hst, List.length_append] at hle; exact hle
          have HLen : Hid ((allP (ls.take i)).length + us.length ≤ N) := hlen
          cases p with
          | none =>
            have h0 := hn rfl
            subst h0
            have hu : us = [] := List.eq_nil_of_length_eq_zero (by omega)
            subst hu
            have HO2 : Hid (OwnP w.heap.size wr u (allP (ls.take (i + 1))) ∧ Below w.heap.size w wr) := by rw [HST.out, List.append_nil]; exact HO.out
            clear hst hle hf hlen hp hs
            go_wp2_with (at_builtin; refine wpList_append_own_none rfl _ _ 22 rfl w.heap.size 30 i0 3 Try.underlying22 hi0 _ _ _ rfl hown rfl ?_)
            go_roundg g'
            case measure => omega
            case rel => exact ⟨i + 1, _, rfl, by go_num, by omega, by omega, HO2⟩
          | some ad =>
            have HCC : Hid (∀ j x, (flat us)[j]? = some x → wr.cell? (ad.add j) = some x) := fun j x hx => by
              by_cases h0 : 0 < us.length
              · obtain ⟨b', o', e, hlt', hc⟩ := hp h0
                cases e
                exact flat_add hc j x hx
              · rw [List.eq_nil_of_length_eq_zero (by omega : us.length = 0)] at hx; simp [flat] at hx
            have HL3 : Hid ((flat us).length = us.length * 3) := flat_length us
            have HO3 : Hid (∀ x ∈ flat us, x.oneCell' = true) := flat_one us
            have HBs : Hid (w.heap.size ≤ wr.heap.size) := HO.out.2.size
            have HNb : Hid (N * 32 ≤ 140737488355328) := hm
            clear hst hle hf hlen hp hs hm
            go_wp2_with (at_builtin; refine wpList_append_own _ rfl _ _ 22 rfl w.heap.size 30 i0 _ 3 32 Try.underlying22 hi0 hz0' hz1' hz2' rfl (by decide) _ _ _ rfl hown ad us.length cc (flat us) rfl HL3.out HCC.out HO3.out (by have := HLen.out; have := HNb.out; unfold maxLen; omega) (by have := HLen.out; have := HNb.out; omega) HBs.out ?_; intro v' w3 hown' hgrow3 hnil3)
            have HO2 : Hid (OwnP w.heap.size w3 v' (allP (ls.take (i + 1))) ∧ Below w.heap.size w w3) := ⟨by
              unfold OwnP
              rw [HST.out, flat_append, List.length_append]; exact hown', Below.grown HO.out.2 hgrow3 HBs.out (fun j hj => by have := (hown.lt _ hj).1; omega)⟩
            clear hown' hgrow3 hnil3
            go_wp2_with fail
            go_roundg g'
            case measure => omega
            case rel => exact ⟨i + 1, _, rfl, by go_num, by omega, by omega, HO2⟩
        · have z1 : ¬ (i : Int) < (ls.length : Int) := by omega
          have HF : Hid (OwnP w.heap.size wr u (allP ls) ∧ Below w.heap.size w wr) := by have := HO.out; rwa [List.take_of_length_le (by omega)] at this
          clear HO
          go_wp2_with fail
          go_ret
          exact ⟨_, rfl, HF.out⟩
end Go.Proofs.Ytnfgfbmkeiimlaa
