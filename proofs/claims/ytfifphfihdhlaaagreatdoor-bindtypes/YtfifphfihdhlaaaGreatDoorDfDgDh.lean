/- A list of steps with one step more, in memory of its own. -/
import Derived.Test.YtfifphfihdhlaaaGreatDoorDe
import Derived.Test.YtfifphfihdhlaaaGreatDoorCuCv
namespace Go.Proofs.YtfifphfihdhlaaaGreatDoor.Bd
open Go.Shelf Go.RowKit Go.Lib Go.Sort
set_option linter.unusedVariables false
set_option linter.unusedSimpArgs false
attribute [local go_sem ↓] Go.wp_at_zero Go.wp_at_succ
theorem oneStpW : ∀ (K : Nat → Prop) (W : World) cs y, rStpW K W cs y → ∀ u ∈ cs, u.oneCell' = true := fun K W cs y h u hu => by
 rw [h.1] at hu
 simp at hu
 rcases hu with rfl | rfl | rfl <;> rfl
theorem add_step (k : Nat) (hk : k < 256) (K : Nat → Prop) (q : Option Addr) (n c : Nat) (l : List Stp) (w : World) (h : ListIs rStpW 3 32 K w (.slice q n c) l) (hn : l.length = n) (hK : ∀ b, K b → b < w.heap.size) (hl : n < 1000) :
 ∃ X2 p2 c2, (Builtin.append_ #[23, 23] 23 #[.slice (some ⟨w.heap.size, 0, none⟩) 0 0, .slice q n c]).run Tryz.prog (w.alloc (.cells #[] 53)) = .ok (.slice p2 n c2) X2 ∧
  ∃ X4 p4 c4, (Builtin.append_ #[23, 23] 23 #[.slice p2 n c2, .slice (some ⟨X2.heap.size, 0, none⟩) 1 1]).run Tryz.prog (X2.alloc (.cells #[.int .u8 (k : Int), .string ⟨#[]⟩, .int .i64 0] 53)) = .ok (.slice p4 (n + 1) c4) X4 ∧
   ListIs rStpW 3 32 (From 0 X4) X4 (.slice p4 (n + 1) c4) (l ++ [⟨k, [], 0⟩]) ∧ Below w.heap.size w X4 := by
 subst hn
 obtain ⟨i0, hi, hz, hs, hb⟩ := inE_stp
 obtain ⟨X, hX⟩ : ∃ X, w.alloc (.cells #[] 53) = X := ⟨_, rfl⟩
 have hbX : Below w.heap.size w X := by rw [← hX]; exact below_alloc _ _
 have hg : X.heap[w.heap.size]? = some (.cells #[] 53 (0, 0)) := by rw [← hX]; exact heap_alloc_new _ _
 have hsX : X.heap.size = w.heap.size + 1 := by rw [← hX]; simp
 rw [hX]
 have hown : X.ownsRow 0 53 3 (.slice (some ⟨w.heap.size, 0, none⟩) 0 0) 0 [] := ⟨by simp, .inr ⟨w.heap.size, 0, #[], rfl, Nat.zero_le _, hg, Nat.le_refl _, Nat.zero_le _, by simp, by simp⟩⟩
 have hO : OwnR rStpW 3 53 0 X (.slice (some ⟨w.heap.size, 0, none⟩) 0 0) [] := OwnR.none hown
 obtain ⟨v2, X2, e2, hO2, hk2, hv2⟩ := OwnR.app mStpW Tryz.underlying23 hi hz hs hb rfl (by omega) hO (Nat.zero_le _) (h.later mStpW hK hbX) (oneStpW K X) (fun b hb => ⟨Nat.zero_le _, by have := hK b hb; omega, by intro e; cases e; exact absurd (hK _ hb) (Nat.lt_irrefl _)⟩) (by simp; omega) (by unfold maxLen; simp; omega) 23
 rw [List.nil_append] at hO2
 obtain ⟨p2, c2, rfl⟩ := hO2.slice
 refine ⟨X2, p2, c2, e2, ?_⟩
 obtain ⟨v4, X4, e4, hO4, hB4, hs4, hk4⟩ := OwnR.push mStpW Tryz.underlying23 hi hz hs hb rfl (by omega) hO2 (Nat.zero_le _) (cs := [.int .u8 (k : Int), .string ⟨#[]⟩, .int .i64 0]) (x := ⟨k, [], 0⟩) (K2 := fun _ => False) rfl (fun u hu => by simp at hu; rcases hu with rfl | rfl | rfl <;> rfl) (fun b hb => hb.elim) ⟨rfl, hk, ⟨by show (_ : Int) ≤ 0; decide, by show (0 : Int) ≤ 9223372036854775807; decide⟩, by simp⟩ (by omega) (by unfold maxLen; omega)
 obtain ⟨p4, c4, rfl, hL⟩ := hO4.list mStpW (bytes := 32) (by simp; omega)
 rw [List.length_append] at e4 hL
 refine ⟨X4, p4, c4, e4, hL, ?_⟩
 have hB := hB4 0 X2 (Below.refl _ _) (Nat.le_refl _)
 refine ⟨hB.os.trans (hk2.os.trans hbX.os), hB.tape.trans (hk2.tape.trans hbX.tape), hB.output.trans (hk2.output.trans hbX.output), by have := hbX.size; have := hk2.size; omega, fun b hb => ?_⟩
 have h1 : X2.heap[b]? = X.heap[b]? := hk2.block b ⟨by omega, by intro e; cases e; exact Nat.lt_irrefl _ hb⟩
 refine (hk4 b (by have := hk2.size; omega) ?_).trans (h1.trans (hbX.block b hb))
 intro e
 rcases hv2 with hv | hv
 · rw [hv] at e; cases e; exact Nat.lt_irrefl _ hb
 · rw [hv] at e; cases e; omega
end Go.Proofs.YtfifphfihdhlaaaGreatDoor.Bd
/- The kind of an expression with one step more. No walk stands in this text. -/
namespace Go.Proofs.YtfifphfihdhlaaaGreatDoor.Bd
open Go.RowKit Go.Lib
set_option linter.unusedVariables false
set_option linter.unusedSimpArgs false
theorem right_add (x : Stp) (h2 : (takesP x).2 = true) (h1 : (takesP x).1 = 1) : ∀ (l : List Stp) (v : Nat), rightL l v = true → rightL (l ++ [x]) v = true
 | [], v, h => by
  have hv : v = 1 := by simpa [rightL] using h
  subst hv
  simp [rightL, h1, h2]
 | y :: l, v, h => by
  rw [List.cons_append]
  unfold rightL at h ⊢
  split at h
  · cases h
  · rename_i hc
    rw [if_neg hc]
    exact right_add x h2 h1 l _ h
theorem comes_err (cols : List Clm) : ∀ (l : List Stp) (st : List Nat), (comesGo cols l st).2 ≠ 0 → (comesGo cols l st).1 = 0
 | [], st, h => absurd rfl h
 | y :: l, st, h => by
  unfold comesGo at h ⊢
  split
  · rename_i hf
    rw [if_pos hf] at h
    exact comes_err cols l _ h
  · rfl
theorem kind_err (l : List Stp) (cols : List Clm) (h : (kindP l cols).2 ≠ 0) : (kindP l cols).1 = 0 := by
 unfold kindP at h ⊢
 split
 · rfl
 · rename_i h1
   rw [if_neg h1] at h
   split
   · rfl
   · rename_i h2
     rw [if_neg h2] at h
     split
     · rfl
     · rename_i h3
       rw [if_neg h3] at h
       exact comes_err cols l [] h
theorem comes_add (cols : List Clm) (x : Stp) (hx : takesN x.k = 1) : ∀ (l : List Stp) (st : List Nat), rightL (l.map withN) st.length = true → (comesGo cols l st).2 = 0 →
 comesGo cols (l ++ [x]) st = if fitsP x.k [(comesGo cols l st).1] then (kindS cols x, 0) else (0, 5)
 | [], st, hr, h => by
  have hv : st.length = 1 := by simpa [rightL] using hr
  match st, hv with
  | [a], _ => simp [comesGo, hx]
 | y :: l, st, hr, h => by
  rw [List.cons_append]
  rw [List.map_cons] at hr
  unfold rightL at hr
  split at hr
  · cases hr
  rename_i hc
  have hc1 : (takesP (withN y)).2 = true := by
   cases hq : (takesP (withN y)).2 with
   | true => rfl
   | false => exact absurd (.inl hq) hc
  have hr2 : rStepP (withN y) = true := by
   unfold takesP at hc1
   split at hc1
   · assumption
   · cases hc1
  have ht : (takesP (withN y)).1 = takesN y.k := by unfold takesP; rw [if_pos hr2]; show takesN (withN y).k = _; rw [withN_k]
  rw [ht] at hr hc
  have hle : takesN y.k ≤ st.length := by
   by_cases hq : st.length < takesN y.k
   · exact absurd (.inr hq) hc
   · omega
  unfold comesGo at h
  split at h
  · rename_i hf
    rw [show comesGo cols (y :: (l ++ [x])) st = comesGo cols (l ++ [x]) (st.take (st.length - takesN y.k) ++ [kindS cols y]) by conv => lhs; unfold comesGo; rw [if_pos hf],
     show comesGo cols (y :: l) st = comesGo cols l (st.take (st.length - takesN y.k) ++ [kindS cols y]) by conv => lhs; unfold comesGo; rw [if_pos hf]]
    refine comes_add cols x hx l _ ?_ h
    rw [show (st.take (st.length - takesN y.k) ++ [kindS cols y]).length = st.length + 1 - takesN y.k by simp; omega]
    exact hr
  · exact absurd h (by decide)
/-- One step more that takes one value. -/
theorem kind_add (l : List Stp) (cols : List Clm) (k : Nat) (h7 : 7 ≤ k) (h10 : k ≤ 10) (hl : l.length < 64) (h : (kindP l cols).2 = 0) :
 kindP (l ++ [⟨k, [], 0⟩]) cols = if fitsP k [(kindP l cols).1] then (kindS cols ⟨k, [], 0⟩, 0) else (0, 5) := by
 have hw : withN ⟨k, [], 0⟩ = ⟨k, [], 0⟩ := by unfold withN; rw [if_neg (by show ¬ (k = 6 ∧ _); omega)]
 have hs : rStepP ⟨k, [], 0⟩ = true := by
  unfold rStepP
  rw [if_neg (by show ¬ (k = 0 ∨ 22 ≤ k); omega), if_neg (by show ¬ k = 4; omega), if_neg (by show ¬ k = 5; omega), if_neg (by show ¬ k = 6; omega)]
  simp
 have hn : takesN k = 1 := by unfold takesN; rw [if_neg (by omega), if_pos (by omega)]
 have ht : takesP ⟨k, [], 0⟩ = (1, true) := by unfold takesP; rw [if_pos hs]; show (takesN k, true) = _; rw [hn]
 unfold kindP at h
 split at h
 · exact absurd h (by decide)
 rename_i h1
 split at h
 · exact absurd h (by decide)
 rename_i h2
 split at h
 · exact absurd h (by decide)
 rename_i h3
 have hr : rightL (l.map withN) 0 = true := by
  have : rightP (l.map withN) = true := by simpa using h1
  unfold rightP at this
  split at this
  · cases this
  · exact this
 have e0 : kindP l cols = comesGo cols l [] := by unfold kindP; rw [if_neg h1, if_neg h2, if_neg h3]
 rw [e0]
 unfold kindP
 rw [if_neg, if_neg h2, if_neg]
 · exact comes_add cols ⟨k, [], 0⟩ hn l [] hr h
 · rw [List.any_append, Bool.or_eq_true]
   rintro (h4 | h4)
   · exact h3 h4
   · unfold outP at h4
     simp at h4
     omega
 · rw [List.map_append, List.map_cons, List.map_nil, hw]
   unfold rightP
   rw [if_neg (by simp; omega), right_add _ (by rw [ht]) (by rw [ht]) _ _ hr]
   decide
end Go.Proofs.YtfifphfihdhlaaaGreatDoor.Bd
/- An expression that takes something of another kind is none: the walk of the law. -/
namespace Go.Proofs.YtfifphfihdhlaaaGreatDoor.Bd
open Go.Shelf Go.RowKit Go.Lib Go.Sort
set_option linter.unusedVariables false
set_option linter.unusedSimpArgs false
attribute [local go_sem ↓] Go.wp_at_zero Go.wp_at_succ
theorem wrap_far (z : Int) (h0 : 0 ≤ z) (h1 : z ≤ 4611686018427387904) : IntKind.i64.wrap z = z ∧ wrap64 z = z := by
 constructor
 · rw [IntKind.wrap_i64]; omega
 · unfold wrap64; omega
theorem fits_un (k : Nat) (cols : List Clm) : ((if fitsP 7 [k] then (kindS cols ⟨7, [], 0⟩, (0 : Int)) else (0, 5)) = if k = 2 ∨ k = 0 then (2, 0) else (0, 5)) ∧ ((if fitsP 8 [k] then (kindS cols ⟨8, [], 0⟩, (0 : Int)) else (0, 5)) = if k = 1 ∨ k = 0 then (1, 0) else (0, 5)) ∧
 ((if fitsP 10 [k] then (kindS cols ⟨10, [], 0⟩, (0 : Int)) else (0, 5)) = if k = 3 ∨ k = 0 then (2, 0) else (0, 5)) ∧ ((if fitsP 9 [k] then (kindS cols ⟨9, [], 0⟩, (0 : Int)) else (0, 5)) = (1, 0)) := by
 refine ⟨?_, ?_, ?_, ?_⟩ <;> simp [fitsP, kindS, mayBe]
set_option maxRecDepth 100000 in
set_option maxHeartbeats 32000000 in
theorem types_walk (q qc : Option Addr) (c cc : Nat) (l : List Stp) (cols : List Clm) (w : World) (h : ListIs rStpW 3 32 (fun b => b < w.heap.size) w (.slice q l.length c) l) (hcl : ListIs rClm 2 24 (fun b => b < w.heap.size) w (.slice qc cols.length cc) cols) (hG : GA w) :
 Calls Tryz.prog 7 #[.slice q l.length c, .slice qc cols.length cc] w fun e w' => e = .returned (.bool true) ∧ Below w.heap.size w w' := by
 have hbig : l.length * 32 ≤ 140737488355328 := by
  obtain ⟨_, _, -, ⟨hb, -⟩, -⟩ := h
  exact hb
 obtain ⟨n, hn⟩ : ∃ n, l.length = n := ⟨_, rfl⟩
 obtain ⟨m, hm⟩ : ∃ n, cols.length = n := ⟨_, rfl⟩
 have C0 := hid (lives_any w hG)
 have CK : Hid (∀ V, Below w.heap.size w V → ∀ (l2 : List Stp) p2 c2, ListIs rStpW 3 32 (From 0 V) V (.slice p2 l2.length c2) l2 → Calls Tryz.prog 14 #[.slice p2 l2.length c2, .slice qc m cc] V fun e w' => e = .returned (.tuple #[.int .u8 ((kindP l2 cols).1 : Int), .int .i64 (kindP l2 cols).2]) ∧ Below V.heap.size V w') := fun V hV l2 p2 c2 hl2 => by
  have := kind_any (From 0 V) (fun b => b < w.heap.size) p2 qc c2 cc l2 cols V hl2 (hcl.later mClm (fun b hb => hb) hV) (fun b hb => hb.2) (fun b hb => Nat.lt_of_lt_of_le hb hV.size) (hG.below hV).gw
  rwa [hm] at this
 have HL : Hid (∀ V, Below w.heap.size w V → ListIs rStpW 3 32 (From 0 V) V (.slice q n c) l) := fun V hV => by
  have := h.mono mStpW (K2 := From 0 V) (fun b hb => ⟨Nat.zero_le _, Nat.lt_of_lt_of_le hb hV.size⟩) (kept_of (fun b hb => hb) hV)
  rwa [hn] at this
 have HN := hid hn
 obtain ⟨k, hk⟩ : ∃ x, (kindP l cols).1 = x := ⟨_, rfl⟩
 obtain ⟨y, hy⟩ : ∃ x, (kindP l cols).2 = x := ⟨_, rfl⟩
 have HKY : Hid ((kindP l cols).1 = k ∧ (kindP l cols).2 = y) := ⟨hk, hy⟩
 rw [hn] at hbig
 have hn47 : n ≤ 4398046511104 := by omega
 have HN47 := hid hn47
 rw [hn, hm]
 clear h hcl hG hn hm hk hy hbig hn47
 go_enter Tryz.func7, Tryz.ntmps7
 go_wp2_with fail
 refine C0.out.mono ?_
 rintro e w1 ⟨rfl, hb1⟩
 have C1 : Hid (Calls Tryz.prog 14 #[.slice q n c, .slice qc m cc] w1 fun e w' => e = .returned (.tuple #[.int .u8 (k : Int), .int .i64 y]) ∧ Below w1.heap.size w1 w') := by
  have := CK.out w1 hb1 l q c (by rw [HN.out]; exact HL.out w1 hb1)
  rwa [HN.out, HKY.out.1, HKY.out.2] at this
 have HB1 := hid hb1
 clear C0 hb1
 go_wp2_with fail
 refine C1.out.mono ?_
 rintro e w2 ⟨rfl, hb2⟩
 have HB2 : Hid (Below w.heap.size w w2) := HB1.out.trans (hb2.mono HB1.out.size)
 clear C1 hb2 HB1
 by_cases hy : y = 0
 case neg =>
  have hk0 : k = 0 := by
   have := kind_err l cols (by rw [HKY.out.2]; exact hy)
   rw [HKY.out.1] at this
   exact this
  subst hk0
  have yy : (y != 0) = true := bne_iff_ne.2 hy
  have yz : (y == 0) = false := beq_eq_false_iff_ne.2 hy
  clear hy CK HL HN HKY
  go_wp2_with fail
  go_ret
  exact ⟨rfl, HB2.out⟩
 subst hy
 by_cases h62 : n ≤ 62
 case neg =>
  have zz : (64 : Int) < (n : Int) + 2 := by omega
  have zw : wrap64 ((n : Int) + 2) = (n : Int) + 2 := (wrap_far _ (by omega) (by have := HN47.out; omega)).2
  clear h62 CK HL HN HKY HN47
  by_cases k0 : k = 0
  · subst k0
    go_wp2_with fail
    go_ret
    exact ⟨rfl, HB2.out⟩
  have y0 : ((k : Int) == 0) = false := beq_eq_false_iff_ne.2 (by omega)
  clear k0
  go_wp2_with fail
  go_ret
  exact ⟨rfl, HB2.out⟩
 have zz : ¬ (64 : Int) < (n : Int) + 2 := by omega
 have H62 := hid h62
 have zw : wrap64 ((n : Int) + 2) = (n : Int) + 2 := (wrap_far _ (by omega) (by have := HN47.out; omega)).2
 clear h62
 obtain ⟨X7, p7, c7, e7, Y7, q7, d7, f7, hl4, hb4⟩ := add_step 7 (by decide) (From 0 w2) q n c l w2 (HL.out w2 HB2.out) HN.out (fun b hb => hb.2) (by have := H62.out; omega)
 obtain ⟨k7, v7, hkv⟩ : ∃ (a : Nat) (b : Int), kindP (l ++ [⟨7, [], 0⟩]) cols = (a, b) := ⟨_, _, rfl⟩
 have HX7 : Hid ((k7, v7) = if k = 2 ∨ k = 0 then (2, 0) else (0, 5)) := by
  show _ = _
  rw [← hkv, kind_add l cols 7 (by omega) (by omega) (by have := H62.out; have := HN.out; omega) HKY.out.2, HKY.out.1]
  exact (fits_un k cols).1
 have HB7 : Hid (Below w.heap.size w Y7) := HB2.out.trans (hb4.mono HB2.out.size)
 have CA7 : Hid (Calls Tryz.prog 14 #[.slice q7 (n + 1) d7, .slice qc m cc] Y7 fun e w' => e = .returned (.tuple #[.int .u8 (k7 : Int), .int .i64 v7]) ∧ Below Y7.heap.size Y7 w') := by
  have hln : (l ++ [(⟨7, [], 0⟩ : Stp)]).length = n + 1 := by rw [List.length_append, HN.out]; rfl
  have := CK.out Y7 HB7.out (l ++ [⟨7, [], 0⟩]) q7 d7 (by rw [hln]; exact hl4)
  rwa [hln, hkv] at this
 have E7 := hid e7
 have F7 := hid f7
 clear e7 f7 hl4 hb4 hkv
 go_wp2_with (first | (at_builtin; refine Lib.wpList_append_run _ rfl _ _ _ _ rfl (.slice (some ⟨w2.heap.size, 0, none⟩) 0 0) (.slice q n c) rfl rfl _ _ E7.out ?_) | (at_builtin; refine Lib.wpList_append_run _ rfl _ _ _ _ rfl (.slice p7 n c7) (.slice (some ⟨X7.heap.size, 0, none⟩) 1 1) rfl rfl _ _ F7.out ?_))
 refine CA7.out.mono ?_
 rintro e u7 ⟨rfl, hbu⟩
 have HU7 : Hid (Below w.heap.size w u7) := HB7.out.trans (hbu.mono HB7.out.size)
 clear CA7 E7 F7 hbu HB2 HB7 zz zw
 obtain ⟨X8, p8, c8, e8, Y8, q8, d8, f8, hl4, hb4⟩ := add_step 8 (by decide) (From 0 u7) q n c l u7 (HL.out u7 HU7.out) HN.out (fun b hb => hb.2) (by have := H62.out; omega)
 obtain ⟨k8, v8, hkv⟩ : ∃ (a : Nat) (b : Int), kindP (l ++ [⟨8, [], 0⟩]) cols = (a, b) := ⟨_, _, rfl⟩
 have HX8 : Hid ((k8, v8) = if k = 1 ∨ k = 0 then (1, 0) else (0, 5)) := by
  show _ = _
  rw [← hkv, kind_add l cols 8 (by omega) (by omega) (by have := H62.out; have := HN.out; omega) HKY.out.2, HKY.out.1]
  exact (fits_un k cols).2.1
 have HB8 : Hid (Below w.heap.size w Y8) := HU7.out.trans (hb4.mono HU7.out.size)
 have CA8 : Hid (Calls Tryz.prog 14 #[.slice q8 (n + 1) d8, .slice qc m cc] Y8 fun e w' => e = .returned (.tuple #[.int .u8 (k8 : Int), .int .i64 v8]) ∧ Below Y8.heap.size Y8 w') := by
  have hln : (l ++ [(⟨8, [], 0⟩ : Stp)]).length = n + 1 := by rw [List.length_append, HN.out]; rfl
  have := CK.out Y8 HB8.out (l ++ [⟨8, [], 0⟩]) q8 d8 (by rw [hln]; exact hl4)
  rwa [hln, hkv] at this
 have E8 := hid e8
 have F8 := hid f8
 clear e8 f8 hl4 hb4 hkv
 go_wp2_with (first | (at_builtin; refine Lib.wpList_append_run _ rfl _ _ _ _ rfl (.slice (some ⟨u7.heap.size, 0, none⟩) 0 0) (.slice q n c) rfl rfl _ _ E8.out ?_) | (at_builtin; refine Lib.wpList_append_run _ rfl _ _ _ _ rfl (.slice p8 n c8) (.slice (some ⟨X8.heap.size, 0, none⟩) 1 1) rfl rfl _ _ F8.out ?_))
 refine CA8.out.mono ?_
 rintro e u8 ⟨rfl, hbu⟩
 have HU8 : Hid (Below w.heap.size w u8) := HB8.out.trans (hbu.mono HB8.out.size)
 clear CA8 E8 F8 hbu HU7 HB8 
 obtain ⟨X10, p10, c10, e10, Y10, q10, d10, f10, hl4, hb4⟩ := add_step 10 (by decide) (From 0 u8) q n c l u8 (HL.out u8 HU8.out) HN.out (fun b hb => hb.2) (by have := H62.out; omega)
 obtain ⟨k10, v10, hkv⟩ : ∃ (a : Nat) (b : Int), kindP (l ++ [⟨10, [], 0⟩]) cols = (a, b) := ⟨_, _, rfl⟩
 have HX10 : Hid ((k10, v10) = if k = 3 ∨ k = 0 then (2, 0) else (0, 5)) := by
  show _ = _
  rw [← hkv, kind_add l cols 10 (by omega) (by omega) (by have := H62.out; have := HN.out; omega) HKY.out.2, HKY.out.1]
  exact (fits_un k cols).2.2.1
 have HB10 : Hid (Below w.heap.size w Y10) := HU8.out.trans (hb4.mono HU8.out.size)
 have CA10 : Hid (Calls Tryz.prog 14 #[.slice q10 (n + 1) d10, .slice qc m cc] Y10 fun e w' => e = .returned (.tuple #[.int .u8 (k10 : Int), .int .i64 v10]) ∧ Below Y10.heap.size Y10 w') := by
  have hln : (l ++ [(⟨10, [], 0⟩ : Stp)]).length = n + 1 := by rw [List.length_append, HN.out]; rfl
  have := CK.out Y10 HB10.out (l ++ [⟨10, [], 0⟩]) q10 d10 (by rw [hln]; exact hl4)
  rwa [hln, hkv] at this
 have E10 := hid e10
 have F10 := hid f10
 clear e10 f10 hl4 hb4 hkv
 go_wp2_with (first | (at_builtin; refine Lib.wpList_append_run _ rfl _ _ _ _ rfl (.slice (some ⟨u8.heap.size, 0, none⟩) 0 0) (.slice q n c) rfl rfl _ _ E10.out ?_) | (at_builtin; refine Lib.wpList_append_run _ rfl _ _ _ _ rfl (.slice p10 n c10) (.slice (some ⟨X10.heap.size, 0, none⟩) 1 1) rfl rfl _ _ F10.out ?_))
 refine CA10.out.mono ?_
 rintro e u10 ⟨rfl, hbu⟩
 have HU10 : Hid (Below w.heap.size w u10) := HB10.out.trans (hbu.mono HB10.out.size)
 clear CA10 E10 F10 hbu HU8 HB10 
 obtain ⟨X9, p9, c9, e9, Y9, q9, d9, f9, hl4, hb4⟩ := add_step 9 (by decide) (From 0 u10) q n c l u10 (HL.out u10 HU10.out) HN.out (fun b hb => hb.2) (by have := H62.out; omega)
 obtain ⟨k9, v9, hkv⟩ : ∃ (a : Nat) (b : Int), kindP (l ++ [⟨9, [], 0⟩]) cols = (a, b) := ⟨_, _, rfl⟩
 have HX9 : Hid ((k9, v9) = (1, 0)) := by
  show _ = _
  rw [← hkv, kind_add l cols 9 (by omega) (by omega) (by have := H62.out; have := HN.out; omega) HKY.out.2, HKY.out.1]
  exact (fits_un k cols).2.2.2
 have HB9 : Hid (Below w.heap.size w Y9) := HU10.out.trans (hb4.mono HU10.out.size)
 have CA9 : Hid (Calls Tryz.prog 14 #[.slice q9 (n + 1) d9, .slice qc m cc] Y9 fun e w' => e = .returned (.tuple #[.int .u8 (k9 : Int), .int .i64 v9]) ∧ Below Y9.heap.size Y9 w') := by
  have hln : (l ++ [(⟨9, [], 0⟩ : Stp)]).length = n + 1 := by rw [List.length_append, HN.out]; rfl
  have := CK.out Y9 HB9.out (l ++ [⟨9, [], 0⟩]) q9 d9 (by rw [hln]; exact hl4)
  rwa [hln, hkv] at this
 have E9 := hid e9
 have F9 := hid f9
 clear e9 f9 hl4 hb4 hkv
 go_wp2_with (first | (at_builtin; refine Lib.wpList_append_run _ rfl _ _ _ _ rfl (.slice (some ⟨u10.heap.size, 0, none⟩) 0 0) (.slice q n c) rfl rfl _ _ E9.out ?_) | (at_builtin; refine Lib.wpList_append_run _ rfl _ _ _ _ rfl (.slice p9 n c9) (.slice (some ⟨X9.heap.size, 0, none⟩) 1 1) rfl rfl _ _ F9.out ?_))
 refine CA9.out.mono ?_
 rintro e u9 ⟨rfl, hbu⟩
 have HU9 : Hid (Below w.heap.size w u9) := HB9.out.trans (hbu.mono HB9.out.size)
 clear CA9 E9 F9 hbu HU10 HB9 
 have h7 := HX7.out
 have h8 := HX8.out
 have h10 := HX10.out
 have h9 := HX9.out
 obtain ⟨rfl, rfl⟩ : k9 = 1 ∧ v9 = 0 := by simpa using h9
 clear HX7 HX8 HX10 HX9 CK HL HN HKY HN47 H62 h9
 by_cases k0 : k = 0
 · subst k0
   rw [if_pos (.inr rfl)] at h7 h8 h10
   obtain ⟨rfl, rfl⟩ := Prod.mk.inj h7
   obtain ⟨rfl, rfl⟩ := Prod.mk.inj h8
   obtain ⟨rfl, rfl⟩ := Prod.mk.inj h10
   clear h7 h8 h10
   go_wp2_with fail
   go_ret
   exact ⟨rfl, HU9.out⟩
 by_cases k2 : k = 2
 · subst k2
   rw [if_pos (by decide)] at h7
   rw [if_neg (by decide)] at h8 h10
   obtain ⟨rfl, rfl⟩ := Prod.mk.inj h7
   obtain ⟨rfl, rfl⟩ := Prod.mk.inj h8
   obtain ⟨rfl, rfl⟩ := Prod.mk.inj h10
   clear h7 h8 h10 k0
   go_wp2_with fail
   go_ret
   exact ⟨rfl, HU9.out⟩
 by_cases k1 : k = 1
 · subst k1
   rw [if_pos (by decide)] at h8
   rw [if_neg (by decide)] at h7 h10
   obtain ⟨rfl, rfl⟩ := Prod.mk.inj h7
   obtain ⟨rfl, rfl⟩ := Prod.mk.inj h8
   obtain ⟨rfl, rfl⟩ := Prod.mk.inj h10
   clear h7 h8 h10 k0 k2
   go_wp2_with fail
   go_ret
   exact ⟨rfl, HU9.out⟩
 by_cases k3 : k = 3
 · subst k3
   rw [if_pos (by decide)] at h10
   rw [if_neg (by decide)] at h7 h8
   obtain ⟨rfl, rfl⟩ := Prod.mk.inj h7
   obtain ⟨rfl, rfl⟩ := Prod.mk.inj h8
   obtain ⟨rfl, rfl⟩ := Prod.mk.inj h10
   clear h7 h8 h10 k0 k1 k2
   go_wp2_with fail
   go_ret
   exact ⟨rfl, HU9.out⟩
 have y0 : ((k : Int) == 0) = false := beq_eq_false_iff_ne.2 (by omega)
 have y1 : ((k : Int) == 1) = false := beq_eq_false_iff_ne.2 (by omega)
 have y2 : ((k : Int) == 2) = false := beq_eq_false_iff_ne.2 (by omega)
 have y3 : ((k : Int) == 3) = false := beq_eq_false_iff_ne.2 (by omega)
 rw [if_neg (by omega)] at h7 h8 h10
 obtain ⟨rfl, rfl⟩ := Prod.mk.inj h7
 obtain ⟨rfl, rfl⟩ := Prod.mk.inj h8
 obtain ⟨rfl, rfl⟩ := Prod.mk.inj h10
 clear h7 h8 h10 k0 k1 k2 k3
 go_wp2_with fail
 go_ret
 exact ⟨rfl, HU9.out⟩
end Go.Proofs.YtfifphfihdhlaaaGreatDoor.Bd
