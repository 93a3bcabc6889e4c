/- The law LexPlaces returns true. -/
import Derived.Test.YtfpcelbpgmoadaaDoorPp
import Derived.Deep.RegionHeld3
namespace Go.Proofs.YtfpcelbpgmoadaaDoor
open Go.RowKit Go.Lib Go.Sort
set_option linter.unusedVariables false
set_option linter.unusedSimpArgs false
attribute [local go_sem ↓] Go.wp_at_zero Go.wp_at_succ

theorem tok_neq (x y : Tok) (w : World) : (binOp .neq 28 x.v y.v).run Tryd.prog w = .ok (.bool (!sameTok x y)) w := by
  have h := tok_eql x y w
  obtain ⟨k, t, n, a⟩ := x
  obtain ⟨k', t', n', a'⟩ := y
  simp only [Tok.v, binOp, Sem.run_bind] at h ⊢
  generalize (Op.equal 28 (.agg #[.int .u8 k, .string ⟨t.toArray⟩, .int .i64 n, .int .i64 a]) (.agg #[.int .u8 k', .string ⟨t'.toArray⟩, .int .i64 n', .int .i64 a'])).run Tryd.prog w = r at h ⊢
  cases r <;> simp_all
theorem own_len {w w' : World} {v : Value} {ts : List Tok} (h : LexOut w w' v ts) : ts.length ≤ 9223372036854775807 := by
  obtain ⟨h1, ⟨_, h2⟩ | ⟨g, cap, cur, rfl, hb, hg, hc1, hc2, _⟩⟩ := h
  · omega
  · unfold maxLen at hc2; omega
theorem same_self (x : Tok) : sameTok x x = true := by simp [sameTok]
theorem take_snoc {ts r : List Tok} {n : Nat} {t : Tok} (h : ts = ts.take n ++ [t] ++ r) (hn : n ≤ ts.length) : ts.take (n + 1) = ts.take n ++ [t] ∧ n < ts.length ∧ ∀ hh : n < ts.length, ts[n] = t := by
  have hl : (ts.take n).length = n := by rw [List.length_take]; omega
  have hlen : n < ts.length := by
    have := congrArg List.length h
    simp only [List.length_append, List.length_cons, List.length_nil, hl] at this
    omega
  have hg : ts[n]? = some t := by
    rw [h, List.append_assoc, List.getElem?_append_right (by rw [hl]; omega), hl]
    simp
  have hg2 : ∀ hh : n < ts.length, ts[n] = t := fun hh => by
    rw [List.getElem?_eq_getElem hh] at hg
    exact Option.some.inj hg
  refine ⟨?_, hlen, hg2⟩
  rw [List.take_add_one, hg]
  rfl
theorem flat_at (ts : List Tok) (n : Nat) (h : n < ts.length) : (flatK ts)[n * 4]? = some (.int .u8 ts[n].k) ∧ (flatK ts)[n * 4 + 1]? = some (.string ⟨ts[n].t.toArray⟩) ∧ (flatK ts)[n * 4 + 2]? = some (.int .i64 ts[n].n) ∧ (flatK ts)[n * 4 + 3]? = some (.int .i64 ts[n].a) := by
  induction ts generalizing n with
  | nil => simp at h
  | cons x ts ih =>
    cases n with
    | zero => simp [flatK]
    | succ n =>
      have := ih n (by simpa using h)
      simp only [flatK, List.flatMap_cons] at this ⊢
      rw [show (n + 1) * 4 = n * 4 + 4 by omega, show n * 4 + 4 + 1 = (n * 4 + 1) + 4 by omega, show n * 4 + 4 + 2 = (n * 4 + 2) + 4 by omega, show n * 4 + 4 + 3 = (n * 4 + 3) + 4 by omega]
      simpa using this
set_option maxRecDepth 100000 in
set_option maxHeartbeats 8000000 in
theorem places_any (s : ByteArray) (hs : s.size ≤ 9223372036854775807) (w : World) (hG : Glob2 w) :
    Calls Tryd.prog 7 #[.string s] w fun e w' => e = .returned (.bool true) ∧ Below w.heap.size w w' := by
  have CV : Hid (Calls Tryd.prog 9 #[] w fun e w' => e = .returned (.bool true) ∧ Below w.heap.size w w') := lives_any w hG
  obtain ⟨⟨ts, er, pl⟩, hP⟩ : ∃ P, lexP s.data.toList = P := ⟨_, rfl⟩
  have CL : Hid (∀ W, Below w.heap.size w W → Calls Tryd.prog 11 #[.string s] W fun e w' => ∃ v, e = .returned (.tuple #[v, .int .i64 er, .int .i64 pl]) ∧ LexOut W w' v ts ∧ Below W.heap.size W w') := fun W h => by
    have := lex_any s W hs (hG.below h).1
    rw [hP] at this
    exact this
  by_cases her : er = 0
  · subst her
    have hshort : ¬ 2048 < s.data.toList.length := by
      intro h
      have : lexP s.data.toList = ([], 4, 0) := by unfold lexP; rw [if_pos h]
      rw [hP] at this
      simp at this
    have hPg : lexGo (lets s.data.toList) ((lets s.data.toList).length + 1) (skipL false (lets s.data.toList)) [] = (ts, 0, pl) := by
      rw [← hP]; unfold lexP; rw [if_neg hshort]
    have hpl : pl = 0 := by
      have h2 := lexGo_acc (lets s.data.toList) ((lets s.data.toList).length + 1) (skipL false (lets s.data.toList)) []
      rw [hPg] at h2
      simp only [if_true, Prod.mk.injEq] at h2
      exact h2.2.2
    subst hpl
    have hsk := skipL_le false (lets s.data.toList)
    have hgd := good_skip (lets s.data.toList) 0 (by omega)
    rw [List.drop_zero, Nat.zero_add] at hgd
    have HL : Hid (∀ pos r W, lexP (s.data.toList.drop pos) = (r, 0, 0) → pos ≤ s.size → Below w.heap.size w W → Calls Tryd.prog 11 #[.string (s.extract pos s.size)] W fun e w' => ∃ v, e = .returned (.tuple #[v, .int .i64 0, .int .i64 0]) ∧ LexOut W w' v r ∧ Below W.heap.size W w') := fun pos r W hr hp h => by
      have := lex_any (s.extract pos s.size) W (by rw [Lib.tail_size]; omega) (hG.below h).1
      rw [tail_list, hr] at this
      exact this
    rw [← Lib.size_eq] at hshort
    have HLP : Hid (∀ pos, lexP (s.data.toList.drop pos) = lexGo (lets (s.data.toList.drop pos)) ((lets (s.data.toList.drop pos)).length + 1) (skipL false (lets (s.data.toList.drop pos))) []) := fun pos => by
      unfold lexP
      rw [if_neg (by rw [List.length_drop, ← Lib.size_eq]; omega)]
    have hL0 : lets (s.data.toList.drop 0) = (lets s.data.toList).drop 0 := by simp
    have hle := letL_le s.data.toList.length s.data.toList
    rw [← show lets s.data.toList = letL s.data.toList.length s.data.toList from rfl, ← Lib.size_eq] at hle
    generalize lets s.data.toList = ls at *
    have HP0 : Hid (lexGo ls (ls.length + 1) (skipL false ls) [] = (ts, 0, 0)) := hPg
    have HG0 : Hid (Good ls (skipL false ls)) := hgd
    have HL0 : Hid (lets (s.data.toList.drop 0) = ls.drop 0) := hL0
    clear hP hG hPg hgd hL0
    go_enter Tryd.func7, Tryd.ntmps7
    go_wp2_with fail
    refine CV.out.mono ?_
    rintro e w1 ⟨rfl, hb1⟩
    have HB1 : Hid (Below w.heap.size w w1) := hb1
    clear hb1 CV
    go_wp2_with fail
    refine (CL.out _ HB1.out).mono ?_
    rintro e w2 ⟨v, rfl, ho, hb2⟩
    have HV : Hid (ts ≠ [] → ∃ g cap, v = .slice (some ⟨g, 0, none⟩) ts.length cap ∧ g < w2.heap.size ∧ ∀ j, j < ts.length * 4 → w2.cell? ⟨g, j, none⟩ = (flatK ts)[j]?) := fun hne => by
      obtain ⟨g, cap, h1, h2, _, h3⟩ := own_cells ho hne
      exact ⟨g, cap, h1, h2, h3⟩
    obtain ⟨pp, cap0, rfl⟩ := own_slice ho
    have htl := own_len ho
    have HB2 : Hid (Below w.heap.size w w2) := HB1.out.trans (hb2.mono HB1.out.size)
    clear hb2 ho CL HB1
    go_wp2_with fail
    go_loopg [6, 7] s.size (fun gf s6 s7 wx => ∃ pos pc nx f p : Nat, s6 = .int .i64 nx ∧ s7 = .int .i64 pc ∧ wx.heap[w2.heap.size]? = some (.stringIter s pos) ∧ Below w2.heap.size w2 wx ∧ Hid (lets (s.data.toList.drop pos) = ls.drop pc) ∧ pc ≤ p ∧ p ≤ ls.length ∧ Hid (Good ls p) ∧ Hid (lexGo ls f p (ts.take nx) = (ts, 0, 0)) ∧ nx ≤ ts.length ∧ ls.length < p + f ∧ s.size ≤ pos + gf ∧ nx ≤ 20 ∧ pos ≤ s.size)
    case atStart => exact ⟨0, 0, 0, ls.length + 1, skipL false ls, rfl, rfl, World.iter_heap w2 s 0, (Below.refl _ _).alloc (Nat.le_refl _) _, HL0, by omega, hsk, HG0, HP0, by omega, by omega, by omega, by omega, by omega⟩
    case round =>
      obtain ⟨pos, pc, nx, f, p, rfl, rfl, hit, hbw, HLs, hpp, hpl2, HGd, HS, hnx1, hf, hgf, hn20, hps⟩ := hrel
      by_cases hp : pos < s.size
      · obtain ⟨g', rfl⟩ : ∃ g', gk = g' + 1 := ⟨gk - 1, by omega⟩
        have hnxt : ∀ ty, (Instr.next (.pointer (some ⟨w2.heap.size, 0, none⟩)) true ty).run Tryd.prog wr = _ := fun ty => Lib.run_next_any_at wr w2.heap.size s pos ty hit hp
        have hst := lets_step s.data.toList pos pc ls HLs.out (by rw [← Lib.size_eq]; exact hp)
        rw [Lib.decodeL_drop] at hst
        have hwd := Lib.width_pos s pos
        have hwl : pos + (Utf8.decode s pos).2 ≤ s.size := by
          have hne : s.data.toList.drop pos ≠ [] := by
            intro e
            have := congrArg List.length e
            rw [List.length_drop, ← Lib.size_eq] at this
            simp at this
            omega
          have := Lib.decodeL_le _ hne
          rw [List.length_drop, ← Lib.size_eq, Lib.decodeL_drop] at this
          omega
        obtain ⟨R, hR⟩ : ∃ R, (Utf8.decode s pos).1 = R := ⟨_, rfl⟩
        obtain ⟨K, hK⟩ : ∃ K, (Utf8.decode s pos).2 = K := ⟨_, rfl⟩
        rw [hR, hK] at hnxt
        rw [hK] at hwd hst hwl
        have hit2 := Lib.iterAt_heap wr w2.heap.size s pos (pos + K) hit
        have hbw2 := Lib.below_iterAt hbw (k := w2.heap.size) (Nat.le_refl _) s (pos + K)
        obtain ⟨W1, hW1⟩ : ∃ W1, wr.iterAt w2.heap.size s (pos + K) = W1 := ⟨_, rfl⟩
        rw [hW1] at hnxt hit2 hbw2
        have HST : Hid (lets (s.data.toList.drop (pos + K)) = ls.drop (pc + 1)) := hst.1
        have hpc : pc < ls.length := hst.2
        clear hW1 hit hbw hst hR hK
        obtain ⟨f', rfl⟩ : ∃ f', f = f' + 1 := ⟨f - 1, by omega⟩
        by_cases hhere : p = pc
        · subst hhere
          obtain ⟨t, p', hta, hnext, hp1, hp2, hgood'⟩ := lexGo_next ls f' p _ ts hpc HGd.out HS.out
          obtain ⟨r', hr', _⟩ := lexGo_pre ls f' p' _ ts hnext
          obtain ⟨htk, hnlt, htn⟩ := take_snoc hr' hnx1
          obtain ⟨r, hrl, hrt⟩ := lex_from ls (f' + 1) p _ ts hpc hf HGd.out HS.out
          have hrlen : r.length + nx = ts.length := by
            have := congrArg List.length hrt
            rw [List.length_append, List.length_take, List.length_map] at this
            omega
          obtain ⟨r0, rr, rfl⟩ : ∃ r0 rr, r = r0 :: rr := by
            cases r with
            | nil => simp at hrlen; omega
            | cons r0 rr => exact ⟨r0, rr, rfl⟩
          have hr0t : shT p r0 = t := by
            have h1 := htn hnlt
            have h2 : ts[nx]? = some (shT p r0) := by
              rw [hrt, List.getElem?_append_right (by rw [List.length_take]; omega), List.length_take]
              rw [show nx - min nx ts.length = 0 by omega]
              rfl
            rw [List.getElem?_eq_getElem hnlt, h1] at h2
            exact (Option.some.inj h2).symm
          have hll := HL.out pos (r0 :: rr) W1 (by rw [HLP.out pos, HLs.out]; exact hrl) (by omega) (HB2.out.trans (hbw2.mono HB2.out.size))
          obtain ⟨g, cap, hpv, hgl, hcells⟩ := HV.out (by intro e; rw [e] at hnlt; simp at hnlt)
          simp only [Value.slice.injEq, true_and] at hpv
          obtain ⟨rfl, rfl⟩ := hpv
          obtain ⟨q0, q1, q2, q3⟩ := flat_at ts nx hnlt
          rw [htn hnlt] at q0 q1 q2 q3
          have HC : Hid (∀ W, Below w2.heap.size w2 W → W.cell? ⟨g, nx * 4, none⟩ = some (.int .u8 t.k) ∧ W.cell? ⟨g, nx * 4 + 1, none⟩ = some (.string ⟨t.t.toArray⟩) ∧ W.cell? ⟨g, nx * 4 + 2, none⟩ = some (.int .i64 t.n) ∧ W.cell? ⟨g, nx * 4 + 3, none⟩ = some (.int .i64 t.a)) := fun W h => by
            rw [h.cell (p := ⟨g, _, none⟩) hgl, h.cell (p := ⟨g, _, none⟩) hgl, h.cell (p := ⟨g, _, none⟩) hgl, h.cell (p := ⟨g, _, none⟩) hgl]
            exact ⟨(hcells _ (by omega)).trans q0, (hcells _ (by omega)).trans q1, (hcells _ (by omega)).trans q2, (hcells _ (by omega)).trans q3⟩
          obtain ⟨rk, rt, rn, ra⟩ := r0
          obtain ⟨tk, tt, tn, ta⟩ := t
          simp only [shT, Tok.mk.injEq] at hr0t
          obtain ⟨rfl, rfl, rfl, hra⟩ := hr0t
          simp only at hta HC
          subst hta
          have hsl : ∀ W, (Instr.slice 9 (.string s) (some (.int .i64 (pos : Int))) none none).run Tryd.prog W = .ok (.string (s.extract pos s.size)) W := fun W => by
            rw [run_slice_string_l (P := Tryd.prog) W 9 s Tryd.underlying9 .i64 (pos : Int) (by omega) (by omega)]
            rw [Int.toNat_natCast]
          have heq : ∀ W, (binOp .neq 28 (.agg #[.int .u8 rk, .string ⟨rt.toArray⟩, .int .i64 rn, .int .i64 p]) (.agg #[.int .u8 rk, .string ⟨rt.toArray⟩, .int .i64 rn, .int .i64 p])).run Tryd.prog W = .ok (.bool false) W := fun W => by
            have := tok_neq ⟨rk, rt, rn, p⟩ ⟨rk, rt, rn, p⟩ W
            rw [same_self] at this
            exact this
          have HLL : Hid (Calls Tryd.prog 11 #[.string (s.extract pos s.size)] W1 fun e w' => ∃ v, e = .returned (.tuple #[v, .int .i64 0, .int .i64 0]) ∧ LexOut W1 w' v (⟨rk, rt, rn, ra⟩ :: rr) ∧ Below W1.heap.size W1 w') := hll
          have HBW : Hid (Below w2.heap.size w2 W1) := hbw2
          have HNX : Hid (lexGo ls f' p' (ts.take (nx + 1)) = (ts, 0, 0)) := by show _ = _; rw [htk]; exact hnext
          have HGN : Hid (Good ls p') := hgood'
          have HIT : Hid (W1.heap[w2.heap.size]? = some (.stringIter s (pos + K))) := hit2
          obtain ⟨c0, c1, c2, c3⟩ := HC.out W1 hbw2
          have y0 : (nx : Int) < (ts.length : Int) := by omega
          have y1 : (0 : Int) ≤ (nx : Int) := by omega
          have trl : (((⟨rk, rt, rn, ra⟩ :: rr).length : Int) != wrap64 ((ts.length : Int) - (nx : Int))) = false := by
            simp only [bne_eq_false_iff_eq, List.length_cons] at hrlen ⊢
            unfold wrap64
            omega
          have trl2 : (((⟨rk, rt, rn, ra⟩ :: rr).length : Int) != (ts.length : Int) - (nx : Int)) = false := by
            simp only [bne_eq_false_iff_eq, List.length_cons] at hrlen ⊢
            omega
          clear hll HL HLP HLs HGd HS HV hrl hrt hrlen hcells q0 q1 q2 q3 hnext hgood' htk htn hr' hbw2 hit2 hra
          go_wp2_with fail
          refine HLL.out.mono ?_
          rintro e w3 ⟨v3, rfl, ho3, hb3⟩
          obtain ⟨g3, cap3, rfl, hg3, _, hc3⟩ := own_cells ho3 (by simp)
          have HB3 : Hid (Below w2.heap.size w2 w3) := HBW.out.trans (hb3.mono HBW.out.size)
          have HIT3 : Hid (w3.heap[w2.heap.size]? = some (.stringIter s (pos + K))) := (hb3.block _ (Array.getElem?_eq_some_iff.1 HIT.out).1).trans HIT.out
          have d0 : w3.cell? ⟨g3, 0, none⟩ = some (.int .u8 rk) := hc3 0 (by simp)
          have d1 : w3.cell? ⟨g3, 1, none⟩ = some (.string ⟨rt.toArray⟩) := hc3 1 (by simp; omega)
          have d2 : w3.cell? ⟨g3, 2, none⟩ = some (.int .i64 rn) := hc3 2 (by simp; omega)
          have d3 : w3.cell? ⟨g3, 3, none⟩ = some (.int .i64 ra) := hc3 3 (by simp; omega)
          obtain ⟨m, hm⟩ : ∃ m, (⟨rk, rt, rn, ra⟩ :: rr : List Tok).length = m := ⟨_, rfl⟩
          have hm1 : (0 : Int) < (m : Int) := by rw [← hm]; simp
          rw [hm] at trl trl2 ⊢
          have n0 : ∀ o, (w3.alloc o).cell? ⟨g, nx * 4, none⟩ = some (.int .u8 rk) := fun o => (HC.out _ (HB3.out.alloc HB3.out.size o)).1
          have n1 : ∀ o, (w3.alloc o).cell? ⟨g, nx * 4 + 1, none⟩ = some (.string ⟨rt.toArray⟩) := fun o => (HC.out _ (HB3.out.alloc HB3.out.size o)).2.1
          have n2 : ∀ o, (w3.alloc o).cell? ⟨g, nx * 4 + 2, none⟩ = some (.int .i64 rn) := fun o => (HC.out _ (HB3.out.alloc HB3.out.size o)).2.2.1
          have n3 : ∀ o, (w3.alloc o).cell? ⟨g, nx * 4 + 3, none⟩ = some (.int .i64 p) := fun o => (HC.out _ (HB3.out.alloc HB3.out.size o)).2.2.2
          clear hb3 ho3 hc3 hm HLL c0 c1 c2 c3
          go_wp2_with fail
          go_quiet (fail)
          have HB4 : Hid (∀ o n, Below w2.heap.size w2 ((w3.alloc o).drewN n)) := fun o n => below_drewN (HB3.out.alloc HB3.out.size o) n
          have HIT4 : Hid (∀ o n, ((w3.alloc o).drewN n).heap[w2.heap.size]? = some (.stringIter s (pos + K))) := fun o n => (Below.heap_alloc _ _ _ (Array.getElem?_eq_some_iff.1 HIT3.out).1).trans HIT3.out
          by_cases h20 : 20 < nx + 1
          · have y2 : (20 : Int) < (nx : Int) + 1 := by omega
            go_wp2_with fail
            go_ret
            exact ⟨rfl, HB2.out.trans ((HB4.out _ _).mono HB2.out.size)⟩
          · have y2 : ¬ (20 : Int) < (nx : Int) + 1 := by omega
            go_wp2_with fail
            go_roundg g'
            case measure => omega
            case rel => exact ⟨pos + K, p + 1, nx + 1, f', p', by go_num, by go_num, HIT4.out _ _, HB4.out _ _, HST, by omega, hp2, HGN, HNX, by omega, by omega, by omega, by omega, hwl⟩
        · have hcond : nx < ts.length → ∀ hh : nx < ts.length, ts[nx].a ≠ pc := by
            intro hl hh
            have hpl3 : p < ls.length := by
              rcases Nat.lt_or_ge p ls.length with h' | h'
              · exact h'
              · have := HS.out
                rw [lexGo_end _ _ _ _ (by omega)] at this
                simp only [Prod.mk.injEq, and_true] at this
                have := congrArg List.length this
                rw [List.length_take] at this
                omega
            obtain ⟨t, p', hta, hnext, hp1, hp2, hgood'⟩ := lexGo_next ls f' p _ ts hpl3 HGd.out HS.out
            obtain ⟨r', hr', _⟩ := lexGo_pre ls f' p' _ ts hnext
            obtain ⟨htk, hnlt, htn⟩ := take_snoc hr' hnx1
            rw [htn hh, hta]
            omega
          have HBW : Hid (Below w2.heap.size w2 W1) := hbw2
          have HIT : Hid (W1.heap[w2.heap.size]? = some (.stringIter s (pos + K))) := hit2
          by_cases hl : nx < ts.length
          · obtain ⟨g, cap, hpv, hgl, hcells⟩ := HV.out (by intro e; rw [e] at hl; simp at hl)
            simp only [Value.slice.injEq, true_and] at hpv
            obtain ⟨rfl, rfl⟩ := hpv
            obtain ⟨q0, q1, q2, q3⟩ := flat_at ts nx hl
            have c3 : W1.cell? ⟨g, nx * 4 + 3, none⟩ = some (.int .i64 ts[nx].a) := by
              rw [hbw2.cell (p := ⟨g, _, none⟩) hgl]
              exact (hcells _ (by omega)).trans q3
            have hne2 : (ts[nx].a == (pc : Int)) = false := beq_eq_false_iff_ne.2 (hcond hl hl)
            generalize ts[nx].a = ta at c3 hne2
            have y0 : (nx : Int) < (ts.length : Int) := by omega
            have y1 : (0 : Int) ≤ (nx : Int) := by omega
            have y2 : ¬ (20 : Int) < (nx : Int) := by omega
            clear hcond HV HL HLP hcells q0 q1 q2 q3 hbw2 hit2 HLs
            go_wp2_with fail
            go_roundg g'
            case measure => omega
            case rel => exact ⟨pos + K, pc + 1, nx, f' + 1, p, by go_num, by go_num, HIT.out, HBW.out, HST, by omega, hpl2, HGd, HS, hnx1, hf, by omega, hn20, hwl⟩
          · have y0 : ¬ (nx : Int) < (ts.length : Int) := by omega
            have y2 : ¬ (20 : Int) < (nx : Int) := by omega
            clear hcond HV HL HLP hbw2 hit2 HLs
            go_wp2_with fail
            go_roundg g'
            case measure => omega
            case rel => exact ⟨pos + K, pc + 1, nx, f' + 1, p, by go_num, by go_num, HIT.out, HBW.out, HST, by omega, hpl2, HGd, HS, hnx1, hf, by omega, hn20, hwl⟩
      · have hnxt : ∀ ty, (Instr.next (.pointer (some ⟨w2.heap.size, 0, none⟩)) true ty).run Tryd.prog wr = _ := fun ty => Lib.run_next_end_at wr w2.heap.size s pos ty hit (by omega)
        have hend : nx = ts.length := by
          have h1 := HLs.out
          rw [List.drop_of_length_le (by rw [← Lib.size_eq]; omega), lets_nil] at h1
          have hpc : ls.length ≤ pc := by
            have := congrArg List.length h1
            rw [List.length_drop] at this
            simp at this
            omega
          have := HS.out
          rw [lexGo_end _ _ _ _ (by omega)] at this
          simp only [Prod.mk.injEq, and_true] at this
          have := congrArg List.length this
          rw [List.length_take] at this
          omega
        subst hend
        clear HLs HGd HS HV HL HLP
        go_wp2_with fail
        go_ret
        exact ⟨rfl, HB2.out.trans (hbw.mono HB2.out.size)⟩
  · have hne : (er != 0) = true := bne_iff_ne.2 her
    have hf := lexP_fail s.data.toList (by rw [hP]; exact her)
    rw [hP] at hf
    simp only at hf
    obtain ⟨rfl, h1, h2⟩ := hf
    rw [← Lib.size_eq] at h2
    have t1 : (0 : Int) ≤ pl := h1
    clear hP hG
    go_enter Tryd.func7, Tryd.ntmps7
    go_wp2_with fail
    refine CV.out.mono ?_
    rintro e w1 ⟨rfl, hb1⟩
    have HB1 : Hid (Below w.heap.size w w1) := hb1
    clear hb1 CV
    go_wp2_with fail
    refine (CL.out _ HB1.out).mono ?_
    rintro e w2 ⟨v, rfl, ho, hb2⟩
    obtain ⟨p, cap, rfl⟩ := own_slice ho
    have HB2 : Hid (Below w.heap.size w w2) := HB1.out.trans (hb2.mono HB1.out.size)
    clear hb2 ho CL
    simp only [List.length_nil]
    go_wp2_with fail
    go_ret
    exact ⟨rfl, HB2.out⟩
end Go.Proofs.YtfpcelbpgmoadaaDoor
