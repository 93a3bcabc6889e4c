/- However batches come: the walk of StreamOnce. -/
import Derived.Test.YtnajchehdgagmaaBf
namespace Go.Proofs.Ytnajchehdgagmaa
open Go.Shelf Go.RowKit Go.Lib Go.Sort
set_option linter.unusedVariables false
set_option linter.unusedSimpArgs false
attribute [local go_sem ↓] Go.wp_at_zero Go.wp_at_succ
/-- An int, a bool in a list. -/
def rI64 : Rel Int := fun _ _ cs x => cs = [.int .i64 x] ∧ I64 x
def rBl : Rel Bool := fun _ _ cs x => cs = [.bool x]
theorem mI64 : Mono rI64 := fun K K2 W W' cs x hk hW h => h
theorem mBl : Mono rBl := fun K K2 W W' cs x hk hW h => h
theorem row_take {K : Nat → Prop} {w : World} {q : Option Addr} {n c : Nat} {rs : List (List Val)} (h : ListIs rRow 1 24 K w (.slice q n c) rs) (i : Nat) (hi : i ≤ rs.length) : ListIs rRow 1 24 K w (.slice q i c) (rs.take i) := by
  obtain ⟨q', c', e, hby, hp⟩ := h
  cases e
  have hl : (rs.take i).length = i := by simp; omega
  refine ⟨q, c, by rw [hl], ⟨by rw [hl]; omega, by rw [hl]; omega⟩, fun h0 => ?_⟩
  obtain ⟨b, o, rfl, hKb, hc⟩ := hp (by omega)
  refine ⟨b, o, rfl, hKb, fun j hj => ?_⟩
  obtain ⟨cs, h1, h2, h3⟩ := hc j (by omega)
  exact ⟨cs, h1, h2, by simpa using h3⟩
set_option maxRecDepth 100000 in
set_option maxHeartbeats 8000000 in
theorem once_any (s : Strm) (v : Value) (rows : List (List Val)) (K : Nat → Prop) (w : World) (hs : okS s) (h : ListIs rRow 1 24 K w v rows) (hK : ∀ b, K b → b < w.heap.size) (vp va : Value) (ps : List Int) (as_ : List Bool) (Kp : Nat → Prop) (hp : ListIs rI64 1 8 Kp w vp ps) (ha : ListIs rBl 1 1 Kp w va as_) (hKp : ∀ b, Kp b → b < w.heap.size) :
    Calls Try.prog 3 #[.agg #[.int .u64 (s.qb : Int), .int .u64 (s.qn : Int), .int .i64 s.at_, .int .i64 s.fr, .int .i64 s.tq], v, vp, va] w fun e w' => e = .returned (.bool true) ∧ Below w.heap.size w w' := by
  obtain ⟨q, c, rfl, hby, -⟩ := id h
  obtain ⟨qp, cp, rfl, hbp, -⟩ := id hp
  obtain ⟨qa, ca, rfl, hba, -⟩ := id ha
  have hps : ps.length * 8 ≤ 140737488355328 := by omega
  have has : as_.length * 1 ≤ 140737488355328 := by omega
  have HP : Hid (∀ V, Below w.heap.size w V → ListIs rI64 1 8 Kp V (.slice qp ps.length cp) ps ∧ ListIs rBl 1 1 Kp V (.slice qa as_.length ca) as_) := fun V hb => ⟨hp.mono mI64 (fun _ h => h) (kept_of hKp hb), ha.mono mBl (fun _ h => h) (kept_of hKp hb)⟩
  have hr63 : rows.length ≤ 5864062014806 := by omega
  obtain ⟨W0, hW0⟩ : ∃ W0, w.alloc (.cells #[.int .u64 (s.qb : Int), .int .u64 (s.qn : Int), .int .i64 s.at_, .int .i64 s.fr, .int .i64 s.tq] 26) = W0 := ⟨_, rfl⟩
  have hb0 : Below w.heap.size w W0 := by rw [← hW0]; exact (Below.refl _ _).alloc (Nat.le_refl _) _
  have hg0 : W0.heap[w.heap.size]? = some (.cells #[.int .u64 (s.qb : Int), .int .u64 (s.qn : Int), .int .i64 s.at_, .int .i64 s.fr, .int .i64 s.tq] 26 (0, 0)) := by rw [← hW0]; exact heap_alloc_new w _
  have hs0 : w.heap.size < W0.heap.size := (Array.getElem?_eq_some_iff.1 hg0).1
  have HL0 : Hid (∀ V, Below w.heap.size w V → ListIs rRow 1 24 K V (.slice q rows.length c) rows ∧ (∀ b, K b → b < V.heap.size)) := fun V hb => ⟨h.mono mRow (fun _ h => h) (kept_of hK hb), fun b hb' => Nat.lt_of_lt_of_le (hK b hb') hb.size⟩
  have HV : Hid (∀ V, Below W0.heap.size W0 V → V.heap[w.heap.size]? = some (.cells #[.int .u64 (s.qb : Int), .int .u64 (s.qn : Int), .int .i64 s.at_, .int .i64 s.fr, .int .i64 s.tq] 26 (0, 0)) ∧ V.rangeAt w.heap.size 0 [.int .u64 (s.qb : Int), .int .u64 (s.qn : Int), .int .i64 s.at_, .int .i64 s.fr, .int .i64 s.tq] ∧ Below w.heap.size w V) := fun V hb => by
    have hbw := hb0.trans (hb.mono hb0.size)
    exact ⟨(hb.block _ hs0).trans hg0, fun j u hu => by rw [Nat.zero_add]; exact cell_of_row ((hb.block _ hs0).trans hg0) (by simpa using hu), hbw⟩
  have CL := hid (lives_any W0)
  have HS : Hid (okS s) := hs
  have HS0 : Hid (w.heap.size < W0.heap.size) := hs0
  clear h hK hb0 hg0 hs0 hs hby hp ha hKp hbp hba
  go_enter Try.func3, Try.ntmps3
  go_wp2_with fail
  refine CL.out.mono ?_
  rintro e w1 ⟨rfl, hb1⟩
  obtain ⟨v0, v1, v2⟩ := HV.out w1 hb1
  obtain ⟨l1, l2⟩ := HL0.out w1 v2
  have HR1 : Hid (w1.rangeAt w.heap.size 0 [.int .u64 (s.qb : Int), .int .u64 (s.qn : Int), .int .i64 s.at_, .int .i64 s.fr, .int .i64 s.tq]) := v1
  have HB1 : Hid (Below W0.heap.size W0 w1) := hb1
  have CC := hid (cut_any s _ rows K w1 HS.out l1 l2)
  clear CL v0 v1 v2 l1 l2 hb1 hW0
  go_wp2_with (refine wpList_load_mid rfl 26 _ rfl w.heap.size 0 rfl _ _ HR1.out Try.underlying26 rfl sz_Strm ?_)
  refine CC.out.mono ?_
  rintro e w2 ⟨cs2, rfl, hr2, hb2⟩
  have hB2 : Below W0.heap.size W0 w2 := HB1.out.trans (hb2.mono HB1.out.size)
  by_cases hbig : 4096 < rows.length
  · rw [if_pos hbig] at hr2 ⊢
    obtain ⟨q2, c2, rfl, _⟩ := out_cells hr2
    have z : (4096 : Int) < (rows.length : Int) := by omega
    have HB2 : Hid (Below w.heap.size w w2) := (HV.out w2 hB2).2.2
    clear CC hr2 hb2 hB2
    obtain ⟨WA, hWA, hth, WS, hWS, hrs, hss, hbs, hrl⟩ := box_new w2 33 #[.int .u64 0, .int .u64 0, .int .i64 0, .int .i64 0, .int .i64 0, .slice none 0 0, .int .u64 0] [.int .u64 ((0 : Nat) : Int), .int .u64 ((0 : Nat) : Int), .int .i64 0, .int .i64 0, .int .i64 0, .slice q2 0 c2, .int .u64 ((0 : Nat) : Int)] rfl
    have HTH : Hid (WA.there w2.heap.size 0 7) := hth
    have HWS : Hid (WA.setCells w2.heap.size 0 (#[.int .u64 ((0 : Nat) : Int), .int .u64 ((0 : Nat) : Int), .int .i64 0, .int .i64 0, .int .i64 0, .slice q2 0 c2, .int .u64 ((0 : Nat) : Int)] : Array Value).toList = WS) := hWS
    have HON : Hid ((#[.int .u64 ((0 : Nat) : Int), .int .u64 ((0 : Nat) : Int), .int .i64 0, .int .i64 0, .int .i64 0, .slice q2 0 c2, .int .u64 ((0 : Nat) : Int)] : Array Value).all (·.oneCell') = true) := by show _ = _; simp [Value.oneCell']
    have HBS : Hid (Below w.heap.size w WS) := HB2.out.trans (hbs.mono HB2.out.size)
    clear hth hWS hrs hss hbs hrl
    go_wp2_with (refine wpList_store_mid rfl 33 _ _ rfl w2.heap.size 0 #[.int .u64 ((0 : Nat) : Int), .int .u64 ((0 : Nat) : Int), .int .i64 0, .int .i64 0, .int .i64 0, .slice q2 0 c2, .int .u64 ((0 : Nat) : Int)] rfl rfl HTH.out sz_Out HON.out ?_; rw [HWS.out])
    go_ret
    exact ⟨by first | rfl | simp [z], HBS.out⟩
  · rw [if_neg hbig] at hr2 ⊢
    obtain ⟨q2, c2, rfl, _, hl2, hcap2, hby2⟩ := out_cells hr2
    obtain ⟨WA, hWA, hth, WS, hWS, hrs, hss, hbs, hrl⟩ := box_new w2 33 #[.int .u64 0, .int .u64 0, .int .i64 0, .int .i64 0, .int .i64 0, .slice none 0 0, .int .u64 0] [.int .u64 (s.qb : Int), .int .u64 (s.qn : Int), .int .i64 s.at_, .int .i64 s.fr, .int .i64 s.tq, .slice q2 (chunkP rows).length c2, .int .u64 ((0 : Nat) : Int)] rfl
    have hBS : Below W0.heap.size W0 WS := hB2.trans (hbs.mono hB2.size)
    obtain ⟨WB, hWB, hth7, WT, hWT, hrs7, hss7, hbs7, hrl7⟩ := box_new WS 39 #[.int .u64 0, .int .u64 0, .int .i64 0, .int .i64 0, .int .i64 0, .int .u64 0, .slice none 0 0, .slice none 0 0, .bool false] [.int .u64 (s.qb : Int), .int .u64 (s.qn : Int), .int .i64 s.at_, .int .i64 s.fr, .int .i64 s.tq, .int .u64 0, .slice none 0 0, .slice none 0 0, .bool false] rfl
    have hnl := chunkP_num rows
    have hpl := chunkP_pos rows
    have h8l := chunkP_le rows
    have hfl := chunkP_flat rows
    have hoe := outE_chunk s rows (by omega)
    obtain ⟨bs, hbsE⟩ : ∃ bs, chunkP rows = bs := ⟨_, rfl⟩
    rw [hbsE] at hnl hpl h8l hfl hoe hr2 hl2
    have hgS : WS.heap[w2.heap.size]? = some (.cells #[.int .u64 (s.qb : Int), .int .u64 (s.qn : Int), .int .i64 s.at_, .int .i64 s.fr, .int .i64 s.tq, .slice q2 (chunkP rows).length c2, .int .u64 ((0 : Nat) : Int)] 33 (0, 0)) := by rw [← hWS]; exact box_full WA w2.heap.size #[.int .u64 0, .int .u64 0, .int .i64 0, .int .i64 0, .int .i64 0, .slice none 0 0, .int .u64 0] 33 (by rw [← hWA]; exact heap_alloc_new w2 _) [.int .u64 (s.qb : Int), .int .u64 (s.qn : Int), .int .i64 s.at_, .int .i64 s.fr, .int .i64 s.tq, .slice q2 (chunkP rows).length c2, .int .u64 ((0 : Nat) : Int)] rfl
    have hgT : WT.heap[WS.heap.size]? = some (.cells #[.int .u64 (s.qb : Int), .int .u64 (s.qn : Int), .int .i64 s.at_, .int .i64 s.fr, .int .i64 s.tq, .int .u64 0, .slice none 0 0, .slice none 0 0, .bool false] 39 (0, 0)) := by rw [← hWT]; exact box_full WB WS.heap.size #[.int .u64 0, .int .u64 0, .int .i64 0, .int .i64 0, .int .i64 0, .int .u64 0, .slice none 0 0, .slice none 0 0, .bool false] 39 (by rw [← hWB]; exact heap_alloc_new WS _) [.int .u64 (s.qb : Int), .int .u64 (s.qn : Int), .int .i64 s.at_, .int .i64 s.fr, .int .i64 s.tq, .int .u64 0, .slice none 0 0, .slice none 0 0, .bool false] rfl
    have hsz1 := HB1.out.size
    have hsz2 := hb2.size
    have hsz0 := HS0.out
    have HE0 : Hid (OncI s bs w w2.heap.size WS.heap.size WT.heap.size 0 ⟨s, 0, [], [], false⟩ (.slice none 0 0) [] WT) := by
      have hbT : Below w2.heap.size w2 WT := hbs.trans (hbs7.mono hbs.size)
      have hBT : Below W0.heap.size W0 WT := hB2.trans (hbT.mono hB2.size)
      refine ⟨⟨q2, c2, From w1.heap.size w2, ?_, fun b hb => ⟨by have := hb.2; omega, by have := hb.2; omega, by have := hb.2; omega, fun e => by cases e⟩, mOut _ _ _ _ _ _ (fun _ h => h) (kept_of From.lt hbT) hr2⟩, ⟨none, 0, none, 0, fun _ => False, ?_, fun b hb => hb.elim, ?_⟩, (HV.out WT hBT).1, (HV.out WT hBT).2.2, by omega, OwnR.none ⟨rfl, .inl ⟨rfl, rfl⟩⟩⟩
      · rw [← hbsE]; exact (hbs7.block _ (by omega)).trans hgS
      · exact hgT
      · refine ⟨_, _, rfl, ⟨HS.out, by show (0:Nat) < _; omega⟩, ⟨none, 0, rfl, ⟨by simp, by simp⟩, fun h => by simp at h⟩, ⟨none, 0, rfl, ⟨by simp, by simp⟩, fun h => by simp at h⟩⟩
    have HTH : Hid (WA.there w2.heap.size 0 7) := hth
    have HWS : Hid (WA.setCells w2.heap.size 0 (#[.int .u64 (s.qb : Int), .int .u64 (s.qn : Int), .int .i64 s.at_, .int .i64 s.fr, .int .i64 s.tq, .slice q2 (chunkP rows).length c2, .int .u64 ((0 : Nat) : Int)] : Array Value).toList = WS) := hWS
    have HON : Hid ((#[.int .u64 (s.qb : Int), .int .u64 (s.qn : Int), .int .i64 s.at_, .int .i64 s.fr, .int .i64 s.tq, .slice q2 (chunkP rows).length c2, .int .u64 ((0 : Nat) : Int)] : Array Value).all (·.oneCell') = true) := by show _ = _; simp [Value.oneCell']
    have HTH7 : Hid (WB.there WS.heap.size 0 9) := hth7
    have HWT : Hid (WB.setCells WS.heap.size 0 (#[.int .u64 (s.qb : Int), .int .u64 (s.qn : Int), .int .i64 s.at_, .int .i64 s.fr, .int .i64 s.tq, .int .u64 0, .slice none 0 0, .slice none 0 0, .bool false] : Array Value).toList = WT) := hWT
    have HON7 : Hid ((#[.int .u64 (s.qb : Int), .int .u64 (s.qn : Int), .int .i64 s.at_, .int .i64 s.fr, .int .i64 s.tq, .int .u64 0, .slice none 0 0, .slice none 0 0, .bool false] : Array Value).all (·.oneCell') = true) := by show _ = _; simp [Value.oneCell']
    have HRS : Hid (WS.rangeAt w.heap.size 0 [.int .u64 (s.qb : Int), .int .u64 (s.qn : Int), .int .i64 s.at_, .int .i64 s.fr, .int .i64 s.tq]) := (HV.out WS hBS).2.1
    have HB8 : Hid (∀ c ∈ bs, c.length ≤ 8) := h8l
    have HFL : Hid (bs.flatten = rows) := hfl
    have HOE : Hid (outE ⟨s, bs, 0⟩ = 0) := hoe
    obtain ⟨N, hN⟩ : ∃ N, bs.length = N := ⟨_, rfl⟩
    have HN : Hid (bs.length = N) := hN
    have hN9 : N ≤ 512 ∧ 0 < N := by omega
    have hr4 : rows.length ≤ 4096 := by omega
    obtain ⟨T5, hT5⟩ : ∃ T5, T5 = w2.heap.size := ⟨_, rfl⟩
    clear CC hr2 hb2 hB2 hl2 hth hWS hrs hss hbs hrl hth7 hWT hrs7 hss7 hbs7 hrl7 hcap2 hby2 hbig hnl hpl h8l hfl hoe hBS hgS hgT hsz1 hsz2 hsz0 hbsE hN
    go_wp2_with (first | (refine wpList_store_mid rfl 33 _ _ rfl w2.heap.size 0 #[.int .u64 (s.qb : Int), .int .u64 (s.qn : Int), .int .i64 s.at_, .int .i64 s.fr, .int .i64 s.tq, .slice q2 (chunkP rows).length c2, .int .u64 ((0 : Nat) : Int)] rfl rfl HTH.out sz_Out HON.out ?_; rw [HWS.out]) | (refine wpList_load_mid rfl 26 _ rfl w.heap.size 0 rfl _ _ HRS.out Try.underlying26 rfl sz_Strm ?_) | (refine wpList_store_mid rfl 39 _ _ rfl WS.heap.size 0 #[.int .u64 (s.qb : Int), .int .u64 (s.qn : Int), .int .i64 s.at_, .int .i64 s.fr, .int .i64 s.tq, .int .u64 0, .slice none 0 0, .slice none 0 0, .bool false] rfl rfl HTH7.out sz_In HON7.out ?_; rw [HWT.out]))
    clear HTH HWS HON HTH7 HWT HON7 HRS hWA hWB hT5
    have HON0 : Hid (OnI s bs ⟨s, 0, [], [], false⟩) := OnI.start s bs (by rw [HN.out]; exact hN9.2)
    obtain ⟨P, hP⟩ : ∃ P, ps.length = P := ⟨_, rfl⟩
    have HPL : Hid (ps.length = P) := hP
    rw [hP]
    clear hP
    go_loopg [12, 40] P (fun gf s12 s40 wx => ∃ (k a : Nat) (x : In_) (xs : List Mg), s40 = .int .i64 k ∧ k ≤ P ∧ P ≤ k + gf ∧ a ≤ N ∧ xs.length ≤ 2003 ∧ ((k = 0 ∧ a = 0) ∨ 0 < xs.length) ∧ Hid (∀ y ∈ xs, ∃ j, j < bs.length ∧ y = mgAt s bs j) ∧ Hid (OnI s bs x) ∧ Hid (OncI s bs w w2.heap.size WS.heap.size WT.heap.size a x s12 xs wx))
    case atStart => exact ⟨0, 0, ⟨s, 0, [], [], false⟩, [], rfl, by omega, by omega, by omega, by simp, .inl ⟨rfl, rfl⟩, (fun y hy => by cases hy), HON0, HE0⟩
    case round =>
      clear HON0 HE0
      obtain ⟨k, a, x, xs, rfl, hk1, hgf, haN, hxl, hka, HXS, HX, HI⟩ := hrel
      obtain ⟨V0, hV0⟩ : ∃ V0, V0 = wr := ⟨_, rfl⟩
      subst hV0
      obtain ⟨pu, cu, hpu, hul⟩ := HI.out.own.list mMg (bytes := 640) (by omega)
      obtain ⟨lx, hlx⟩ : ∃ lx, xs.length = lx := ⟨_, rfl⟩
      rw [hlx] at hpu hxl hka
      subst hpu
      have HLX : Hid (xs.length = lx) := hlx
      clear hul hlx
      by_cases hkP : k < P
      · obtain ⟨g', rfl⟩ : ∃ g', gk = g' + 1 := ⟨gk - 1, by omega⟩
        obtain ⟨_, _, e1, _, hpc⟩ := (HP.out V0 HI.out.bel).1
        cases e1
        obtain ⟨pb, po, rfl, _, hpj⟩ := hpc (by rw [HPL.out]; omega)
        obtain ⟨cs, _, hpr, rfl, hp64⟩ := hpj k (by rw [HPL.out]; exact hkP)
        have fp := hpr 0 _ rfl
        obtain ⟨p, hp⟩ : ∃ p, ps[k]'(by rw [HPL.out]; exact hkP) = p := ⟨_, rfl⟩
        rw [hp] at fp hp64
        rw [Nat.mul_one, Nat.add_zero] at fp
        have z1 : (k : Int) < (P : Int) := by omega
        have z0 : (0 : Int) ≤ (k : Int) := by omega
        clear hpc hpj hpr hp
        by_cases hk4 : 400 < k
        · have z4 : (400 : Int) < (k : Int) := by omega
          obtain ⟨qi, ci, qr, cr, Ki, gi, hKi, hri⟩ := HI.out.i
          have hpre := HX.out.pre
          rw [HFL.out] at hpre
          have hrl : x.r.length ≤ rows.length := by have := congrArg List.length hpre; rw [List.length_take] at this; omega
          have hlr : ListIs rRow 1 24 Ki V0 (.slice qr x.r.length cr) x.r := by
            obtain ⟨v', u', e', _, _, h4⟩ := hri
            have e9 : u' = .slice qr x.r.length cr := by
              have := congrArg (fun l => l[7]?) e'
              simp only [List.getElem?_cons_succ, List.getElem?_cons_zero, Option.some.injEq] at this
              exact this.symm
            rw [← e9]; exact h4
          obtain ⟨lo1, lo2⟩ := HL0.out V0 HI.out.bel
          have lo3 : ListIs rRow 1 24 K V0 (.slice q x.r.length c) x.r := by
            have := row_take lo1 x.r.length hrl
            rwa [← hpre] at this
          have hcap : rows.length ≤ c := by
            obtain ⟨_, _, e, hb, _⟩ := lo1
            cases e
            omega
          have hall : x.d = true → x.r.length = rows.length := fun hd => by
            have h1 := HX.out.d
            rw [hd] at h1
            have h2 : x.n = bs.length := of_decide_eq_true h1.symm
            rw [HX.out.r, h2, List.take_length, HFL.out]
          have hrow7 := cell_of_row (k := 7) (v := .slice qr x.r.length cr) gi rfl
          have hrow8 := cell_of_row (k := 8) (v := .bool x.d) gi rfl
          have cS0 : ∀ p : LaterS V0.heap.size V0, Calls Try.prog 14 #[.slice qr x.r.length cr, .slice q x.r.length c] p.w fun e w' => e = .returned (.bool true) ∧ Below p.w.heap.size p.w w' := fun p =>
            rows_eq _ _ x.r Ki K p.w (ListIs.later mRow hlr (fun b hb => (hKi b hb).1) p.h) (ListIs.later mRow lo3 lo2 p.h) (fun b hb => Nat.lt_of_lt_of_le (hKi b hb).1 p.h.size) (fun b hb => Nat.lt_of_lt_of_le (lo2 b hb) p.h.size)
          clear hlr lo3 hpre lo1 lo2 gi hri hKi
          obtain ⟨R, hR⟩ : ∃ R, x.r.length = R := ⟨_, rfl⟩
          obtain ⟨D, hD⟩ : ∃ D, x.d = D := ⟨_, rfl⟩
          rw [hR] at hrl hall hrow7 cS0
          rw [hD] at hall hrow8
          have hsz := HI.out.sz
          have hlt : WS.heap.size < V0.heap.size := by omega
          have cS := hid cS0
          have c7 : ∀ p : LaterS V0.heap.size V0, p.w.cell? ⟨WS.heap.size, 7, none⟩ = some (.slice qr R cr) := fun p => (p.h.cell (p := ⟨WS.heap.size, 7, none⟩) hlt).trans hrow7
          have H8 : Hid (∀ V, Below V0.heap.size V0 V → V.cell? ⟨WS.heap.size, 7, none⟩ = some (.slice qr R cr) ∧ V.cell? ⟨WS.heap.size, 8, none⟩ = some (.bool D)) := fun V hV => ⟨(hV.cell (p := ⟨WS.heap.size, 7, none⟩) hlt).trans hrow7, (hV.cell (p := ⟨WS.heap.size, 8, none⟩) hlt).trans hrow8⟩
          have HALL : Hid (D = true → R = rows.length) := hall
          have HBV : Hid (Below w.heap.size w V0) := HI.out.bel
          have zR : ¬ (rows.length : Int) < (R : Int) := by omega
          have zR0 : (0 : Int) ≤ (R : Int) := by omega
          have zRc : (R : Int) ≤ (c : Int) := by omega
          have zRn : R ≤ c := by omega
          have zRN : ¬ rows.length < R := by omega
          have zRd : decide ((rows.length : Int) < (R : Int)) = false := decide_eq_false zR
          have zRd2 : decide (rows.length < R) = false := decide_eq_false zRN
          have zRd3 : decide ((R : Int) > (rows.length : Int)) = false := decide_eq_false zR
          clear cS0 hrow7 hrow8 hR hD hsz hlt hall hrl hcap HI HX HXS
          go_wp2_with fail
          have inhL := laterInh
          refine wp_region_laterS mixedOnS (by kernel_rfl) ?_
          repeat (go_big_quiet_step ((go_at_call 14; exact calls_laterS (cS.out _))))
          refine wpQuiet_nil ?_
          intro w9 hw'
          obtain ⟨⟨wq, hwq⟩, hw''⟩ := hw'
          subst hw''
          obtain ⟨f7, f8⟩ := H8.out _ hwq
          have HBF := hid (HBV.out.trans (hwq.mono HBV.out.size))
          clear cS c7 H8 HBV hwq
          cases D
          · go_wp2_with fail
            go_ret
            exact ⟨rfl, HBF.out⟩
          · have eR := HALL.out rfl
            subst eR
            have te : ((rows.length : Int) == (rows.length : Int)) = true := by simp
            go_wp2_with fail
            go_ret
            exact ⟨rfl, HBF.out⟩
        · have z4 : ¬ (400 : Int) < (k : Int) := by omega
          obtain ⟨qo, co, Ko, go, hKo, hro⟩ := HI.out.o
          have hOa : outE ⟨s, bs, a⟩ = 0 := outE_ack ⟨s, bs, 0⟩ a HOE.out (by show a ≤ bs.length; rw [HN.out]; exact haN)
          have CS := hid (send_any _ ⟨s, bs, a⟩ Ko V0 hro hOa (fun b hb => (hKo b hb).1))
          have HRO : Hid (V0.rangeAt w2.heap.size 0 [.int .u64 (s.qb : Int), .int .u64 (s.qn : Int), .int .i64 s.at_, .int .i64 s.fr, .int .i64 s.tq, .slice qo bs.length co, .int .u64 (a : Int)]) := fun j u hu => by rw [Nat.zero_add]; exact cell_of_row go (by simpa using hu)
          clear go hKo hro hOa
          go_wp2_with (refine wpList_load_mid rfl 33 _ rfl w2.heap.size 0 rfl _ _ HRO.out Try.underlying33 rfl sz_Out ?_)
          refine CS.out.mono ?_
          rintro e w4 ⟨u, rfl, hO4, hb4⟩
          have hLS := open_lenS ⟨s, bs, a⟩
          have hNN : sendN ⟨s, bs, a⟩ = min bs.length (a + 4) - a := rfl
          rw [HN.out] at hNN
          obtain ⟨pl, cl4, rfl, hl4⟩ := hO4.list mMg (bytes := 640) (by rw [hLS, hNN]; omega)
          have hsd : ∀ y ∈ sendP ⟨s, bs, a⟩, ∃ j, j < bs.length ∧ y = mgAt s bs j := by
            intro y hy
            obtain ⟨i, hi, rfl⟩ := List.getElem_of_mem hy
            exact ⟨a + i, by rw [hLS, hNN] at hi; rw [HN.out]; omega, sendP_at s bs a i hi⟩
          have HSD : Hid (∀ y ∈ sendP ⟨s, bs, a⟩, ∃ j, j < bs.length ∧ y = mgAt s bs j) := hsd
          have hI4 := HI.out.later hb4
          have hLv : (sendP ⟨s, bs, a⟩).length ≤ 4 ∧ ((k = 0 ∧ a = 0) → 0 < (sendP ⟨s, bs, a⟩).length) := by rw [hLS, hNN]; omega
          have hsz := HI.out.sz
          have hob := HI.out.own.block
          obtain ⟨ys, hys⟩ : ∃ ys, sendP ⟨s, bs, a⟩ = ys := ⟨_, rfl⟩
          rw [hys] at hl4 hLv HSD
          rw [show (Value.slice pl (sendP ⟨s, bs, a⟩).length cl4) = .slice pl ys.length cl4 by rw [hys]]
          clear hO4 hLS hNN hsd CS HRO
          obtain ⟨v', X2, eap, hI5⟩ := hI4.app hl4 (fun b hb => ⟨by have := hb.1; omega, hb.2, fun e => by have := (hob b e).2; have := hb.1; omega⟩) (by rw [HLX.out]; omega)
          have HI4 : Hid (OncI s bs w w2.heap.size WS.heap.size WT.heap.size a x (.slice pu lx cu) xs w4) := hI4
          have HI5 : Hid (OncI s bs w w2.heap.size WS.heap.size WT.heap.size a x v' (xs ++ ys) X2) := hI5
          obtain ⟨ly, hly⟩ : ∃ ly, ys.length = ly := ⟨_, rfl⟩
          have HLY : Hid (ys.length = ly) := hly
          rw [hly] at eap hLv
          rw [show (Value.slice pl ys.length cl4) = .slice pl ly cl4 by rw [hly]]
          clear hl4 hI4 hI5 hsz hob hb4 hys hly HI
          have zl : ¬ (4 : Int) < (ly : Int) := by omega
          have e0 : ((0 : Int) != 0) = false := by simp
          by_cases hx2 : lx < 2000
          · have zx : (lx : Int) < 2000 := by omega
            obtain ⟨pv, cv, hpv, hvl⟩ := HI5.out.own.list mMg (bytes := 640) (by rw [List.length_append, HLX.out, HLY.out]; omega)
            obtain ⟨lv, hlv⟩ : ∃ lv, (xs ++ ys).length = lv := ⟨_, rfl⟩
            have hlw : lv = lx + ly := by rw [← hlv, List.length_append, HLX.out, HLY.out]
            have HLV : Hid ((xs ++ ys).length = lv) := hlv
            rw [hlv] at hpv hvl
            subst hpv
            have HZS : Hid (∀ y ∈ xs ++ ys, ∃ j, j < bs.length ∧ y = mgAt s bs j) := fun y hy => (List.mem_append.1 hy).elim (HXS.out y) (HSD.out y)
            obtain ⟨zs, hzs⟩ : ∃ zs, xs ++ ys = zs := ⟨_, rfl⟩
            rw [hzs] at HLV HZS HI5 hvl
            have hlo : 0 < lv ∧ lv ≤ 2003 := by omega
            have HIr := HI5
            clear hlv hlw hzs HI4 HXS HSD HI5
            obtain ⟨XW, hXW⟩ : ∃ XW, X2 = XW := ⟨_, rfl⟩
            rw [hXW] at hvl HIr eap
            clear hXW
            obtain ⟨J, hJ⟩ : ∃ J : Nat, (p % 18446744073709551616).tmod (lv : Int) = (J : Int) := ⟨((p % 18446744073709551616).tmod (lv : Int)).toNat, by rw [Int.toNat_of_nonneg (Int.tmod_nonneg _ (by omega))]⟩
            have hJl : J < lv := by have := Int.tmod_lt_of_pos (p % 18446744073709551616) (show (0 : Int) < (lv : Int) by omega); omega
            obtain ⟨g, o, cl, rfl, hKg, hrg, hlen, hmg⟩ := msg_at hvl J (by rw [HLV.out]; exact hJl)
            obtain ⟨j, hjN, hjE⟩ := HZS.out _ (List.getElem_mem (show J < zs.length by rw [HLV.out]; exact hJl))
            rw [hjE] at hmg
            obtain ⟨hX1, hXn⟩ := HX.out.take j hjN
            have hm1 := hX1.m
            obtain ⟨qi, ci, qr, cr, Ki, gi, hKi, hri⟩ := HIr.out.i
            have hb9 : bs.length ≤ 512 := by rw [HN.out]; omega
            have hb0 : 0 < bs.length := by omega
            have hin := HX.out.ok HB8.out hb9 hb0
            have hmx : (mgAt s bs j).m = x.m := HX.out.m.symm
            have CT0 : ∀ V, Below XW.heap.size XW V → Calls Try.prog 10 #[.agg #[.int .u64 (s.qb : Int), .int .u64 (s.qn : Int), .int .i64 s.at_, .int .i64 s.fr, .int .i64 s.tq, .int .u64 (x.n : Int), .slice qi x.h.length ci, .slice qr x.r.length cr, .bool x.d], .agg cl.toArray] V fun e w' => ∃ q8 c8 q9 c9, e = .returned (.tuple #[.agg #[.int .u64 (s.qb : Int), .int .u64 (s.qn : Int), .int .i64 s.at_, .int .i64 s.fr, .int .i64 s.tq, .int .u64 ((takeP x (mgAt s bs j)).n : Int), .slice q8 (takeP x (mgAt s bs j)).h.length c8, .slice q9 (takeP x (mgAt s bs j)).r.length c9, .bool (takeP x (mgAt s bs j)).d], .int .i64 (refE x (mgAt s bs j))]) ∧ rIn (From V.heap.size w') w' [.int .u64 (s.qb : Int), .int .u64 (s.qn : Int), .int .i64 s.at_, .int .i64 s.fr, .int .i64 s.tq, .int .u64 ((takeP x (mgAt s bs j)).n : Int), .slice q8 (takeP x (mgAt s bs j)).h.length c8, .slice q9 (takeP x (mgAt s bs j)).r.length c9, .bool (takeP x (mgAt s bs j)).d] (takeP x (mgAt s bs j)) ∧ Below V.heap.size V w' := fun V hV => by
              have := take_cells [.int .u64 (s.qb : Int), .int .u64 (s.qn : Int), .int .i64 s.at_, .int .i64 s.fr, .int .i64 s.tq, .int .u64 (x.n : Int), .slice qi x.h.length ci, .slice qr x.r.length cr, .bool x.d] cl x (mgAt s bs j) (fun b => b < XW.heap.size) V (mIn _ _ _ _ _ _ (fun b hb => (hKi b hb).1) (kept_of (fun b hb => (hKi b hb).1) hV) hri) hin (mMg _ _ _ _ _ _ (fun b hb => hb.2) (kept_of (fun b hb => hb.2) hV) hmg) hmx (mgAt_le s bs j HB8.out) (fun b hb => Nat.lt_of_lt_of_le hb hV.size)
              rw [hm1] at this
              exact this
            obtain ⟨x', hx'⟩ : ∃ x', takeP x (mgAt s bs j) = x' := ⟨_, rfl⟩
            obtain ⟨E, hE⟩ : ∃ E, refE x (mgAt s bs j) = E := ⟨_, rfl⟩
            rw [hx'] at CT0 hX1 hXn
            rw [hE] at CT0
            have CT := hid CT0
            have HX1 : Hid (OnI s bs x') := hX1
            have HRg : Hid (∀ V : World, V.heap[g]? = XW.heap[g]? → V.rangeAt g (o + J * 47) cl) := fun V hV j u hu => (World.cell?_of_block (a := ⟨g, o + J * 47 + j, none⟩) hV).trans (hrg j u hu)
            have HRi : Hid (∀ V : World, V.heap[WS.heap.size]? = XW.heap[WS.heap.size]? → V.rangeAt WS.heap.size 0 [.int .u64 (s.qb : Int), .int .u64 (s.qn : Int), .int .i64 s.at_, .int .i64 s.fr, .int .i64 s.tq, .int .u64 (x.n : Int), .slice qi x.h.length ci, .slice qr x.r.length cr, .bool x.d]) := fun V hV j u hu => by rw [Nat.zero_add]; exact cell_of_row (hV.trans gi) (by simpa using hu)
            have SZM : Hid ((Try.prog.info? 65).map (·.size) = some cl.length) := by show _ = _; rw [hlen]; exact sz_Msg
            have HGs : Hid (g < XW.heap.size ∧ WS.heap.size < XW.heap.size) := ⟨hKg.2, by have := HIr.out.sz; omega⟩
            have zv : ((lv : Int) == 0) = false := beq_eq_false_iff_ne.2 (by omega)
            have zp : IntKind.u64.wrap p = p % 18446744073709551616 := by rw [IntKind.wrap_u64]
            have zv2 : IntKind.u64.wrap (lv : Int) = (lv : Int) := by rw [IntKind.wrap_u64]; omega
            have zJu : IntKind.u64.wrap (J : Int) = (J : Int) := by rw [IntKind.wrap_u64]; omega
            have zJt : J < lv := hJl
            have zv0 : ¬ lv = 0 := by omega
            have zJn : (J : Int).toNat = J := by omega
            have zJ : IntKind.i64.wrap (J : Int) = (J : Int) := by rw [IntKind.wrap_i64]; omega
            have zJ0 : (0 : Int) ≤ (J : Int) := by omega
            have zJl : (J : Int) < (lv : Int) := by omega
            clear hvl hKg hrg hlen hmg hjE hX1 hm1 gi hKi hri hb9 hb0 hin hmx CT0 hx' hE
            obtain ⟨W5, hW5⟩ : ∃ W5, XW.drew = W5 := ⟨_, rfl⟩
            have hb5 : Below XW.heap.size XW W5 := by rw [← hW5]; exact (Below.refl _ _).drew
            have HB5 := hid hb5
            clear hb5
            go_wp2_with (at_builtin; refine Lib.wpList_append_run _ rfl _ _ _ _ rfl (.slice pu lx cu) (.slice pl ly cl4) rfl rfl _ _ eap ?_)
            refine wp_region_held_drew (S := fun V => V.rangeAt g (o + J * 47) cl ∧ V.rangeAt WS.heap.size 0 [.int .u64 (s.qb : Int), .int .u64 (s.qn : Int), .int .i64 s.at_, .int .i64 s.fr, .int .i64 s.tq, .int .u64 (x.n : Int), .slice qi x.h.length ci, .slice qr x.r.length cr, .bool x.d]) (by kernel_rfl) (by rw [hW5]; exact ⟨HRg.out W5 (HB5.out.block _ HGs.out.1), HRi.out W5 (HB5.out.block _ HGs.out.2)⟩) (fun hHeld => ?_)
            refine wpAnyH_take (i := 0) (v := .agg #[.int .u64 (s.qb : Int), .int .u64 (s.qn : Int), .int .i64 s.at_, .int .i64 s.fr, .int .i64 s.tq, .int .u64 (x.n : Int), .slice qi x.h.length ci, .slice qr x.r.length cr, .bool x.d]) rfl (by kernel_rfl) (by kernel_rfl) (by kernel_rfl) (fun _ _ _ h => h) (yieldsIf_load_mid (by rfl) 39 (.tmp 11) rfl WS.heap.size 0 rfl [.int .u64 (s.qb : Int), .int .u64 (s.qn : Int), .int .i64 s.at_, .int .i64 s.fr, .int .i64 s.tq, .int .u64 (x.n : Int), .slice qi x.h.length ci, .slice qr x.r.length cr, .bool x.d] _ (fun W hW => hW.2) Try.underlying39 rfl sz_In) hHeld ?_
            simp only [Act.put, List.getElem_toArray, List.getElem_cons_zero, List.getElem_cons_succ, List.setIfInBounds_toArray, List.set_cons_zero, List.set_cons_succ]
            refine wpAnyH_take (i := 1) (v := .slice (some ⟨g, o, none⟩) lv cv) rfl (by kernel_rfl) (by kernel_rfl) (by kernel_rfl) (fun _ _ _ h => h) (.inl ⟨by rfl, fun W hW => by go_simp⟩) hHeld ?_
            simp only [Act.put, List.getElem_toArray, List.getElem_cons_zero, List.getElem_cons_succ, List.setIfInBounds_toArray, List.set_cons_zero, List.set_cons_succ]
            refine wpAnyH_take (i := 2) (v := .int .i64 p) rfl (by kernel_rfl) (by kernel_rfl) (by kernel_rfl) (fun _ _ _ h => h) (.inl ⟨by rfl, fun W hW => by go_simp⟩) hHeld ?_
            simp only [Act.put, List.getElem_toArray, List.getElem_cons_zero, List.getElem_cons_succ, List.setIfInBounds_toArray, List.set_cons_zero, List.set_cons_succ]
            refine wpAnyH_take (i := 3) (v := .int .u64 (p % 18446744073709551616)) rfl (by kernel_rfl) (by kernel_rfl) (by kernel_rfl) (fun _ _ _ h => h) (.inl ⟨by rfl, fun W hW => by go_simp⟩) hHeld ?_
            simp only [Act.put, List.getElem_toArray, List.getElem_cons_zero, List.getElem_cons_succ, List.setIfInBounds_toArray, List.set_cons_zero, List.set_cons_succ]
            refine wpAnyH_take (i := 4) (v := .slice (some ⟨g, o, none⟩) lv cv) rfl (by kernel_rfl) (by kernel_rfl) (by kernel_rfl) (fun _ _ _ h => h) (.inl ⟨by rfl, fun W hW => by go_simp⟩) hHeld ?_
            simp only [Act.put, List.getElem_toArray, List.getElem_cons_zero, List.getElem_cons_succ, List.setIfInBounds_toArray, List.set_cons_zero, List.set_cons_succ]
            refine wpAnyH_take (i := 5) (v := .int .i64 (lv : Int)) rfl (by kernel_rfl) (by kernel_rfl) (by kernel_rfl) (fun _ _ _ h => h) (.inl ⟨by rfl, fun W hW => by go_simp⟩) hHeld ?_
            simp only [Act.put, List.getElem_toArray, List.getElem_cons_zero, List.getElem_cons_succ, List.setIfInBounds_toArray, List.set_cons_zero, List.set_cons_succ]
            refine wpAnyH_take (i := 6) (v := .int .u64 (lv : Int)) rfl (by kernel_rfl) (by kernel_rfl) (by kernel_rfl) (fun _ _ _ h => h) (.inl ⟨by rfl, fun W hW => by go_simp⟩) hHeld ?_
            simp only [Act.put, List.getElem_toArray, List.getElem_cons_zero, List.getElem_cons_succ, List.setIfInBounds_toArray, List.set_cons_zero, List.set_cons_succ]
            refine wpAnyH_take (i := 7) (v := .int .u64 (J : Int)) rfl (by kernel_rfl) (by kernel_rfl) (by kernel_rfl) (fun _ _ _ h => h) (.inl ⟨by rfl, fun W hW => by go_simp⟩) hHeld ?_
            simp only [Act.put, List.getElem_toArray, List.getElem_cons_zero, List.getElem_cons_succ, List.setIfInBounds_toArray, List.set_cons_zero, List.set_cons_succ]
            refine wpAnyH_take (i := 8) (v := .int .i64 (J : Int)) rfl (by kernel_rfl) (by kernel_rfl) (by kernel_rfl) (fun _ _ _ h => h) (.inl ⟨by rfl, fun W hW => by go_simp⟩) hHeld ?_
            simp only [Act.put, List.getElem_toArray, List.getElem_cons_zero, List.getElem_cons_succ, List.setIfInBounds_toArray, List.set_cons_zero, List.set_cons_succ]
            refine wpAnyH_take (i := 9) (v := .pointer (some ⟨g, o + J * 47, none⟩)) rfl (by kernel_rfl) (by kernel_rfl) (by kernel_rfl) (fun _ _ _ h => h) (.inl ⟨by rfl, fun W hW => by go_simp⟩) hHeld ?_
            simp only [Act.put, List.getElem_toArray, List.getElem_cons_zero, List.getElem_cons_succ, List.setIfInBounds_toArray, List.set_cons_zero, List.set_cons_succ]
            refine wpAnyH_take (i := 10) (v := .agg cl.toArray) rfl (by kernel_rfl) (by kernel_rfl) (by kernel_rfl) (fun _ _ _ h => h) (yieldsIf_load_mid (by rfl) 65 (.tmp 80) rfl g (o + J * 47) rfl cl _ (fun W hW => hW.1) Try.underlying65 rfl SZM.out) hHeld ?_
            simp only [Act.put, List.getElem_toArray, List.getElem_cons_zero, List.getElem_cons_succ, List.setIfInBounds_toArray, List.set_cons_zero, List.set_cons_succ]
            rw [hW5] at hHeld ⊢
            clear hW5
            refine wpAnyH_ready (rs := [11, 15]) (by kernel_rfl) (by simp) ?_
            refine AllReadyH.cons rfl (fun K' hK => ?_) ?_
            · rw [if_pos (by rfl)]
              go_simp
              go_at_call 10
              refine (CT.out W5 HB5.out).mono ?_
              rintro e w8 ⟨q8, c8, q9, c9, rfl, hr8, hb8⟩
              have hB8 : Below XW.heap.size XW w8 := HB5.out.trans (hb8.mono HB5.out.size)
              refine hK.out _ _ ⟨HRg.out w8 (hB8.block _ HGs.out.1), HRi.out w8 (hB8.block _ HGs.out.2)⟩ (fun hHeld => ?_)
              clear hK K'
              refine wpAnyH_take (i := 12) (v := .tuple #[.agg #[.int .u64 (s.qb : Int), .int .u64 (s.qn : Int), .int .i64 s.at_, .int .i64 s.fr, .int .i64 s.tq, .int .u64 (x'.n : Int), .slice q8 x'.h.length c8, .slice q9 x'.r.length c9, .bool x'.d], .int .i64 E]) rfl (by kernel_rfl) (by kernel_rfl) (by kernel_rfl) (fun _ _ _ h => h) (.inl ⟨by rfl, fun W hW => by go_simp⟩) hHeld ?_
              simp only [Act.put, List.getElem_toArray, List.getElem_cons_zero, List.getElem_cons_succ, List.setIfInBounds_toArray, List.set_cons_zero, List.set_cons_succ]
              refine wpAnyH_take (i := 13) (v := .agg #[.int .u64 (s.qb : Int), .int .u64 (s.qn : Int), .int .i64 s.at_, .int .i64 s.fr, .int .i64 s.tq, .int .u64 (x'.n : Int), .slice q8 x'.h.length c8, .slice q9 x'.r.length c9, .bool x'.d]) rfl (by kernel_rfl) (by kernel_rfl) (by kernel_rfl) (fun _ _ _ h => h) (.inl ⟨by rfl, fun W hW => by go_simp⟩) hHeld ?_
              simp only [Act.put, List.getElem_toArray, List.getElem_cons_zero, List.getElem_cons_succ, List.setIfInBounds_toArray, List.set_cons_zero, List.set_cons_succ]
              refine wpAnyH_take (i := 14) (v := .int .i64 E) rfl (by kernel_rfl) (by kernel_rfl) (by kernel_rfl) (fun _ _ _ h => h) (.inl ⟨by rfl, fun W hW => by go_simp⟩) hHeld ?_
              simp only [Act.put, List.getElem_toArray, List.getElem_cons_zero, List.getElem_cons_succ, List.setIfInBounds_toArray, List.set_cons_zero, List.set_cons_succ]
              refine wpAnyH_ready (rs := [15]) (by kernel_rfl) (by simp) ?_
              refine AllReadyH.cons rfl (fun K' hK => ?_) AllReadyH.nil
              rw [if_pos (by rfl)]
              obtain ⟨WA, hWA, hth, WU, hWU, hrs, hss, hbs, hrl⟩ := box_new w8 39 #[.int .u64 0, .int .u64 0, .int .i64 0, .int .i64 0, .int .i64 0, .int .u64 0, .slice none 0 0, .slice none 0 0, .bool false] [.int .u64 (s.qb : Int), .int .u64 (s.qn : Int), .int .i64 s.at_, .int .i64 s.fr, .int .i64 s.tq, .int .u64 (x'.n : Int), .slice q8 x'.h.length c8, .slice q9 x'.r.length c9, .bool x'.d] rfl
              have hBU : Below XW.heap.size XW WU := hB8.trans (hbs.mono hB8.size)
              have hBA : Below XW.heap.size XW WA := hB8.trans (by rw [← hWA]; exact ((Below.refl _ _).alloc (Nat.le_refl _) _).mono hB8.size)
              have HTH : Hid (WA.there w8.heap.size 0 9) := hth
              have HWU : Hid (WA.setCells w8.heap.size 0 (#[.int .u64 (s.qb : Int), .int .u64 (s.qn : Int), .int .i64 s.at_, .int .i64 s.fr, .int .i64 s.tq, .int .u64 (x'.n : Int), .slice q8 x'.h.length c8, .slice q9 x'.r.length c9, .bool x'.d] : Array Value).toList = WU) := hWU
              have HO8 : Hid ((#[.int .u64 (s.qb : Int), .int .u64 (s.qn : Int), .int .i64 s.at_, .int .i64 s.fr, .int .i64 s.tq, .int .u64 (x'.n : Int), .slice q8 x'.h.length c8, .slice q9 x'.r.length c9, .bool x'.d] : Array Value).all (·.oneCell') = true) := by show _ = _; simp [Value.oneCell']
              have HRU : Hid (WU.rangeAt w8.heap.size 0 [.int .u64 (s.qb : Int), .int .u64 (s.qn : Int), .int .i64 s.at_, .int .i64 s.fr, .int .i64 s.tq, .int .u64 (x'.n : Int), .slice q8 x'.h.length c8, .slice q9 x'.r.length c9, .bool x'.d]) := hrs
              have HIU : Hid (rIn (From XW.heap.size WU) WU [.int .u64 (s.qb : Int), .int .u64 (s.qn : Int), .int .i64 s.at_, .int .i64 s.fr, .int .i64 s.tq, .int .u64 (x'.n : Int), .slice q8 x'.h.length c8, .slice q9 x'.r.length c9, .bool x'.d] x') := mIn _ _ _ _ _ _ (fun b hb => ⟨Nat.le_trans HB5.out.size hb.1, Nat.lt_of_lt_of_le hb.2 hbs.size⟩) (kept_of From.lt hbs) hr8
              go_simp
              refine hK.out _ _ ⟨HRg.out WA (hBA.block _ HGs.out.1), HRi.out WA (hBA.block _ HGs.out.2)⟩ (fun hHeld => ?_)
              clear hK K' hth hWU hrs hrl
              refine wpAnyH_ready (rs := [16]) (by kernel_rfl) (by simp) ?_
              refine AllReadyH.cons rfl (fun K' hK => ?_) AllReadyH.nil
              rw [if_pos (by rfl)]
              refine wp_store_mid 39 (.tmp 17) (.tmp 83) rfl w8.heap.size 0 #[.int .u64 (s.qb : Int), .int .u64 (s.qn : Int), .int .i64 s.at_, .int .i64 s.fr, .int .i64 s.tq, .int .u64 (x'.n : Int), .slice q8 x'.h.length c8, .slice q9 x'.r.length c9, .bool x'.d] rfl rfl HTH.out sz_In HO8.out ?_
              rw [HWU.out]
              refine hK.out _ _ ⟨HRg.out WU (hBU.block _ HGs.out.1), HRi.out WU (hBU.block _ HGs.out.2)⟩ (fun hHeld => ?_)
              clear hK K'
              refine wpAnyH_ready (rs := [17]) (by kernel_rfl) (by simp) ?_
              refine AllReadyH.cons rfl (fun K' hK => ?_) AllReadyH.nil
              rw [if_pos (by rfl)]
              go_simp
              refine hK.out _ _ ⟨HRg.out WU (hBU.block _ HGs.out.1), HRi.out WU (hBU.block _ HGs.out.2)⟩ (fun hHeld => ?_)
              clear hK K'
              refine wpAnyH_done (by kernel_rfl) ?_ _
              obtain ⟨B17, hB17⟩ : ∃ B, w8.heap.size = B := ⟨_, rfl⟩
              rw [hB17] at HRU
              rw [hB17]
              have HBU : Hid (Below XW.heap.size XW WU) := hBU
              have HBL : Hid (B17 < WU.heap.size) := by show _ < _; rw [← hB17]; omega
              clear hHeld hB8 hBU hBA HTH HWU HO8 hr8 hb8 hbs hss hB17 hWA
              have hb9 : bs.length ≤ 512 := by rw [HN.out]; omega
              have hb0 : 0 < bs.length := by rw [HN.out]; omega
              have CI0 := checkIn_any [.int .u64 (s.qb : Int), .int .u64 (s.qn : Int), .int .i64 s.at_, .int .i64 s.fr, .int .i64 s.tq, .int .u64 (x'.n : Int), .slice q8 x'.h.length c8, .slice q9 x'.r.length c9, .bool x'.d] x' (From XW.heap.size WU) WU HIU.out From.lt
              rw [HX1.out.ok HB8.out hb9 hb0] at CI0
              have CI := hid CI0
              have hfew := HX1.out.few HB8.out
              have zn : ¬ (x'.n : Int) < (x.n : Int) := by omega
              have zh : ¬ (4 : Int) ≤ (x'.h.length : Int) := by omega
              clear CI0 CT HRg HRi SZM HB5 zp zv zv2 zJu zJt zJn zJ zJ0 zJl hJ eap
              go_wp2_with (refine wpList_load_mid rfl 39 _ rfl B17 0 rfl _ _ HRU.out Try.underlying39 rfl sz_In ?_)
              refine CI.out.mono ?_
              rintro e w9 ⟨rfl, hbw⟩
              have hI9 := (HIr.out.later HBU.out).later hbw
              have hsB := HBU.out.size
              have hsW := hbw.size
              have hsI := HIr.out.sz
              have hob := HIr.out.own.block
              have c5 : w9.cell? ⟨B17, 5, none⟩ = some (.int .u64 (x'.n : Int)) := (hbw.cell (p := ⟨B17, 5, none⟩) HBL.out).trans (by have := HRU.out 5 _ rfl; rwa [Nat.zero_add] at this)
              have c6 : w9.cell? ⟨B17, 6, none⟩ = some (.slice q8 x'.h.length c8) := (hbw.cell (p := ⟨B17, 6, none⟩) HBL.out).trans (by have := HRU.out 6 _ rfl; rwa [Nat.zero_add] at this)
              obtain ⟨_, _, _, _, _, gi9, _⟩ := hI9.i
              have t5 : w9.cell? ⟨WS.heap.size, 5, none⟩ = some (.int .u64 (x.n : Int)) := cell_of_row (k := 5) gi9 rfl
              have HRU9 : Hid (w9.rangeAt B17 0 [.int .u64 (s.qb : Int), .int .u64 (s.qn : Int), .int .i64 s.at_, .int .i64 s.fr, .int .i64 s.tq, .int .u64 (x'.n : Int), .slice q8 x'.h.length c8, .slice q9 x'.r.length c9, .bool x'.d]) := fun j u hu => (hbw.cell (p := ⟨B17, 0 + j, none⟩) HBL.out).trans (HRU.out j u hu)
              obtain ⟨hthI, X, hX, hIX⟩ := hI9.putI (x' := x') (mIn _ _ _ _ _ _ (fun _ h => h) (kept_of From.lt hbw) HIU.out) (fun b hb => ⟨by have := hb.2; omega, by have := hb.1; omega, by have := hb.1; omega, fun e => by have := (hob b e).2; have := hb.1; omega⟩)
              have HIX : Hid (OncI s bs w w2.heap.size WS.heap.size WT.heap.size a x' (.slice (some ⟨g, o, none⟩) lv cv) zs X) := hIX
              have HTI : Hid (w9.there WS.heap.size 0 9) := hthI
              have HXI : Hid (w9.setCells WS.heap.size 0 (#[.int .u64 (s.qb : Int), .int .u64 (s.qn : Int), .int .i64 s.at_, .int .i64 s.fr, .int .i64 s.tq, .int .u64 (x'.n : Int), .slice q8 x'.h.length c8, .slice q9 x'.r.length c9, .bool x'.d] : Array Value).toList = X) := hX
              have HOI : Hid ((#[.int .u64 (s.qb : Int), .int .u64 (s.qn : Int), .int .i64 s.at_, .int .i64 s.fr, .int .i64 s.tq, .int .u64 (x'.n : Int), .slice q8 x'.h.length c8, .slice q9 x'.r.length c9, .bool x'.d] : Array Value).all (·.oneCell') = true) := by show _ = _; simp [Value.oneCell']
              clear hI9 hsB hsW hsI hob gi9 hthI hX hIX hbw CI HIr HIU HRU HBU HBL
              by_cases hkA : k < as_.length
              · have zA : (k : Int) < (as_.length : Int) := by omega
                obtain ⟨_, _, e1, _, hac⟩ := (HP.out X HIX.out.bel).2
                cases e1
                obtain ⟨ab, ao, rfl, _, haj⟩ := hac (by omega)
                obtain ⟨cs, _, har, rfl⟩ := haj k hkA
                have fa := har 0 _ rfl
                obtain ⟨av, hav⟩ : ∃ av, as_[k] = av := ⟨_, rfl⟩
                rw [hav] at fa
                rw [Nat.mul_one, Nat.add_zero] at fa
                clear hac haj har hav
                cases av
                · go_wp2_with (first | (refine wpList_load_mid rfl 39 _ rfl B17 0 rfl _ _ HRU9.out Try.underlying39 rfl sz_In ?_) | (refine wpList_store_mid rfl 39 _ _ rfl WS.heap.size 0 #[.int .u64 (s.qb : Int), .int .u64 (s.qn : Int), .int .i64 s.at_, .int .i64 s.fr, .int .i64 s.tq, .int .u64 (x'.n : Int), .slice q8 x'.h.length c8, .slice q9 x'.r.length c9, .bool x'.d] rfl rfl HTI.out sz_In HOI.out ?_; rw [HXI.out]))
                  go_roundg g'
                  case measure => omega
                  case rel => exact ⟨k + 1, a, x', zs, by go_num, by omega, by omega, haN, by rw [HLV.out]; omega, .inr (by rw [HLV.out]; omega), HZS, HX1, HIX⟩
                · go_wp2_with (first | (refine wpList_load_mid rfl 39 _ rfl B17 0 rfl _ _ HRU9.out Try.underlying39 rfl sz_In ?_) | (refine wpList_store_mid rfl 39 _ _ rfl WS.heap.size 0 #[.int .u64 (s.qb : Int), .int .u64 (s.qn : Int), .int .i64 s.at_, .int .i64 s.fr, .int .i64 s.tq, .int .u64 (x'.n : Int), .slice q8 x'.h.length c8, .slice q9 x'.r.length c9, .bool x'.d] rfl rfl HTI.out sz_In HOI.out ?_; rw [HXI.out]))
                  obtain ⟨qo2, co2, Ko2, go2, hKo2, hro2⟩ := HIX.out.o
                  obtain ⟨qi2, ci2, qr2, cr2, Ki2, gi2, hKi2, hri2⟩ := HIX.out.i
                  have hst2 := HIX.out.st
                  have hsz2 := HIX.out.sz
                  have HST : Hid (∀ V : World, V.heap[w.heap.size]? = X.heap[w.heap.size]? → V.heap[WS.heap.size]? = X.heap[WS.heap.size]? → V.rangeAt w.heap.size 0 [.int .u64 (s.qb : Int), .int .u64 (s.qn : Int), .int .i64 s.at_, .int .i64 s.fr, .int .i64 s.tq] ∧ V.rangeAt WS.heap.size 0 [.int .u64 (s.qb : Int), .int .u64 (s.qn : Int), .int .i64 s.at_, .int .i64 s.fr, .int .i64 s.tq, .int .u64 (x'.n : Int), .slice qi2 x'.h.length ci2, .slice qr2 x'.r.length cr2, .bool x'.d]) := fun V h1 h2 => ⟨fun j u hu => by rw [Nat.zero_add]; exact cell_of_row (h1.trans hst2) (by simpa using hu), fun j u hu => by rw [Nat.zero_add]; exact cell_of_row (h2.trans gi2) (by simpa using hu)⟩
                  have HRO2 : Hid (∀ V, Below X.heap.size X V → V.rangeAt w2.heap.size 0 [.int .u64 (s.qb : Int), .int .u64 (s.qn : Int), .int .i64 s.at_, .int .i64 s.fr, .int .i64 s.tq, .slice qo2 bs.length co2, .int .u64 (a : Int)]) := fun V hV j u hu => by rw [Nat.zero_add]; exact cell_of_row ((hV.block _ (by omega)).trans go2) (by simpa using hu)
                  have HSZ : Hid (w.heap.size < X.heap.size ∧ WS.heap.size < X.heap.size ∧ w.heap.size ≠ w2.heap.size ∧ WS.heap.size ≠ w2.heap.size) := ⟨by omega, by omega, by omega, by omega⟩
                  have CK : Hid (∀ V, Below X.heap.size X V → Calls Try.prog 13 #[.agg #[.int .u64 (s.qb : Int), .int .u64 (s.qn : Int), .int .i64 s.at_, .int .i64 s.fr, .int .i64 s.tq, .int .u64 (x'.n : Int), .slice qi2 x'.h.length ci2, .slice qr2 x'.r.length cr2, .bool x'.d]] V fun e w' => ∃ cl2 : List Value, e = .returned (.agg cl2.toArray) ∧ cl2[37]? = some (.int .u64 (x'.n : Int)) ∧ Below V.heap.size V w') := fun V hV => by
                    refine (ack_any _ x' Ki2 V (mIn _ _ _ _ _ _ (fun _ h => h) (kept_of (fun b hb => (hKi2 b hb).1) hV) hri2)).mono ?_
                    rintro e w' ⟨rfl, hb⟩
                    exact ⟨_, rfl, rfl, hb⟩
                  have hnl := HX1.out.n
                  have CA : Hid (∀ V, Below X.heap.size X V → Calls Try.prog 12 #[.agg #[.int .u64 (s.qb : Int), .int .u64 (s.qn : Int), .int .i64 s.at_, .int .i64 s.fr, .int .i64 s.tq, .slice qo2 bs.length co2, .int .u64 (a : Int)], .agg #[.int .u64 (s.qb : Int), .int .u64 (s.qn : Int), .int .i64 s.at_, .int .i64 s.fr, .int .i64 s.tq], .int .u64 (x'.n : Int)] V fun e w' => ∃ q6 c6, e = .returned (.agg #[.int .u64 (s.qb : Int), .int .u64 (s.qn : Int), .int .i64 s.at_, .int .i64 s.fr, .int .i64 s.tq, .slice q6 bs.length c6, .int .u64 (x'.n : Int)]) ∧ Hid (w'.there w2.heap.size 0 7) ∧ Hid (Below V.heap.size V w') ∧ ∃ Y, Hid (w'.setCells w2.heap.size 0 (#[.int .u64 (s.qb : Int), .int .u64 (s.qn : Int), .int .i64 s.at_, .int .i64 s.fr, .int .i64 s.tq, .slice q6 bs.length c6, .int .u64 (x'.n : Int)] : Array Value).toList = Y) ∧ Hid (OncI s bs w w2.heap.size WS.heap.size WT.heap.size x'.n x' (.slice (some ⟨g, o, none⟩) lv cv) zs Y) ∧ Hid (∀ b, b ≠ w2.heap.size → Y.heap[b]? = w'.heap[b]?)) := fun V hV => by
                    have hob := HIX.out.own.block
                    have CA0 := acked_any _ ⟨s, bs, a⟩ s x'.n Ko2 V (mOut _ _ _ _ _ _ (fun _ h => h) (kept_of (fun b hb => (hKo2 b hb).1) hV) hro2) HS.out (by omega) (fun b hb => Nat.lt_of_lt_of_le (hKo2 b hb).1 hV.size)
                    have hak : ackP ⟨s, bs, a⟩ s x'.n = ⟨s, bs, x'.n⟩ := by
                      unfold ackP; simp only []; rw [same_refl, decide_eq_true hnl]; rfl
                    rw [hak] at CA0
                    refine Calls.mono CA0 ?_
                    rintro e w6 ⟨cs6, rfl, hr6, hb6⟩
                    obtain ⟨q6, c6, rfl, _⟩ := out_cells hr6
                    have hsV := hV.size
                    obtain ⟨hth6, Y, hY, hIY⟩ := ((HIX.out.later hV).later hb6).putO (a' := x'.n) hr6 (fun b hb => ⟨hb.2, by have := hb.1; omega, by have := hb.1; omega, fun e => by have := (hob b e).2; have := hb.1; omega⟩)
                    refine ⟨q6, c6, rfl, hth6, hb6, Y, hY, hIY, fun b hb => ?_⟩
                    rw [← hY]
                    exact (setCells_any w2.heap.size _ 0 w6).2.2.2.2 b hb
                  obtain ⟨W7, hW7⟩ : ∃ W7, X.drew = W7 := ⟨_, rfl⟩
                  have hb7 : Below X.heap.size X W7 := by rw [← hW7]; exact (Below.refl _ _).drew
                  have HB7 := hid hb7
                  have HNN : Hid (x'.n ≤ N) := by show _ ≤ _; rw [← HN.out]; exact hnl
                  clear hb7 go2 hKo2 hro2 gi2 hKi2 hri2 hst2 hsz2 hnl
                  refine wp_region_held_drew (S := fun V => V.rangeAt w.heap.size 0 [.int .u64 (s.qb : Int), .int .u64 (s.qn : Int), .int .i64 s.at_, .int .i64 s.fr, .int .i64 s.tq] ∧ V.rangeAt WS.heap.size 0 [.int .u64 (s.qb : Int), .int .u64 (s.qn : Int), .int .i64 s.at_, .int .i64 s.fr, .int .i64 s.tq, .int .u64 (x'.n : Int), .slice qi2 x'.h.length ci2, .slice qr2 x'.r.length cr2, .bool x'.d]) (by kernel_rfl) (by rw [hW7]; exact HST.out W7 (HB7.out.block _ HSZ.out.1) (HB7.out.block _ HSZ.out.2.1)) (fun hHeld => ?_)
                  refine wpAnyH_take (i := 1) (v := .agg #[.int .u64 (s.qb : Int), .int .u64 (s.qn : Int), .int .i64 s.at_, .int .i64 s.fr, .int .i64 s.tq]) rfl (by kernel_rfl) (by kernel_rfl) (by kernel_rfl) (fun _ _ _ h => h) (yieldsIf_load_mid (by rfl) 26 (.tmp 4) rfl w.heap.size 0 rfl [.int .u64 (s.qb : Int), .int .u64 (s.qn : Int), .int .i64 s.at_, .int .i64 s.fr, .int .i64 s.tq] _ (fun W hW => hW.1) Try.underlying26 rfl sz_Strm) hHeld ?_
                  simp only [Act.put, List.getElem_toArray, List.getElem_cons_zero, List.getElem_cons_succ, List.setIfInBounds_toArray, List.set_cons_zero, List.set_cons_succ]
                  refine wpAnyH_take (i := 2) (v := (.agg #[.int .u64 (s.qb : Int), .int .u64 (s.qn : Int), .int .i64 s.at_, .int .i64 s.fr, .int .i64 s.tq, .int .u64 (x'.n : Int), .slice qi2 x'.h.length ci2, .slice qr2 x'.r.length cr2, .bool x'.d])) rfl (by kernel_rfl) (by kernel_rfl) (by kernel_rfl) (fun _ _ _ h => h) (yieldsIf_load_mid (by rfl) 39 (.tmp 11) rfl WS.heap.size 0 rfl [.int .u64 (s.qb : Int), .int .u64 (s.qn : Int), .int .i64 s.at_, .int .i64 s.fr, .int .i64 s.tq, .int .u64 (x'.n : Int), .slice qi2 x'.h.length ci2, .slice qr2 x'.r.length cr2, .bool x'.d] _ (fun W hW => hW.2) Try.underlying39 rfl sz_In) hHeld ?_
                  simp only [Act.put, List.getElem_toArray, List.getElem_cons_zero, List.getElem_cons_succ, List.setIfInBounds_toArray, List.set_cons_zero, List.set_cons_succ]
                  rw [hW7] at hHeld ⊢
                  clear hW7
                  refine wpAnyH_ready (rs := [0, 3]) (by kernel_rfl) (by simp) ?_
                  refine AllReadyH.cons rfl (fun K' hK => ?_) ?_
                  · rw [if_pos (by rfl)]
                    refine wp_load_mid 33 (.tmp 9) rfl w2.heap.size 0 rfl _ _ (HRO2.out W7 HB7.out) Try.underlying33 rfl sz_Out ?_
                    simp only [Act.put, List.getElem_toArray, List.getElem_cons_zero, List.getElem_cons_succ, List.setIfInBounds_toArray, List.set_cons_zero, List.set_cons_succ]
                    refine hK.out _ _ hHeld (fun hHeld => ?_)
                    clear hK K'
                    refine wpAnyH_ready (rs := [3]) (by kernel_rfl) (by simp) ?_
                    refine AllReadyH.cons rfl (fun K' hK => ?_) AllReadyH.nil
                    rw [if_pos (by rfl)]
                    go_simp
                    go_at_call 13
                    refine (CK.out W7 HB7.out).mono ?_
                    rintro e w10 ⟨cl2, rfl, hk2, hb10⟩
                    have hB10 : Below X.heap.size X w10 := HB7.out.trans (hb10.mono HB7.out.size)
                    have hfd : ∀ W, (Instr.field 65 (.agg cl2.toArray) 7).run Try.prog W = .ok (.int .u64 (x'.n : Int)) W := fun W => field37 cl2 _ hk2 W
                    refine hK.out _ _ (HST.out w10 (hB10.block _ HSZ.out.1) (hB10.block _ HSZ.out.2.1)) (fun hHeld => ?_)
                    clear hK K'
                    refine wpAnyH_take (i := 4) (v := .int .u64 (x'.n : Int)) rfl (by kernel_rfl) (by kernel_rfl) (by kernel_rfl) (fun _ _ _ h => h) (.inl ⟨by rfl, fun W hW => by go_simp⟩) hHeld ?_
                    simp only [Act.put, List.getElem_toArray, List.getElem_cons_zero, List.getElem_cons_succ, List.setIfInBounds_toArray, List.set_cons_zero, List.set_cons_succ]
                    refine wpAnyH_ready (rs := [5]) (by kernel_rfl) (by simp) ?_
                    refine AllReadyH.cons rfl (fun K' hK => ?_) AllReadyH.nil
                    rw [if_pos (by rfl)]
                    go_simp
                    go_at_call 12
                    refine (CA.out w10 hB10).mono ?_
                    rintro e w11 ⟨q6, c6, rfl, HT11, HB11, Y, HY, HIY, HKY⟩
                    have hB11 : Below X.heap.size X w11 := hB10.trans (HB11.out.mono hB10.size)
                    have HO11 : Hid ((#[.int .u64 (s.qb : Int), .int .u64 (s.qn : Int), .int .i64 s.at_, .int .i64 s.fr, .int .i64 s.tq, .slice q6 bs.length c6, .int .u64 (x'.n : Int)] : Array Value).all (·.oneCell') = true) := by show _ = _; simp [Value.oneCell']
                    refine hK.out _ _ (HST.out w11 (hB11.block _ HSZ.out.1) (hB11.block _ HSZ.out.2.1)) (fun hHeld => ?_)
                    clear hK K'
                    refine wpAnyH_ready (rs := [6]) (by kernel_rfl) (by simp) ?_
                    refine AllReadyH.cons rfl (fun K' hK => ?_) AllReadyH.nil
                    rw [if_pos (by rfl)]
                    refine wp_store_mid 33 (.tmp 9) (.tmp 117) rfl w2.heap.size 0 #[.int .u64 (s.qb : Int), .int .u64 (s.qn : Int), .int .i64 s.at_, .int .i64 s.fr, .int .i64 s.tq, .slice q6 bs.length c6, .int .u64 (x'.n : Int)] rfl rfl HT11.out sz_Out HO11.out ?_
                    rw [HY.out]
                    refine hK.out _ _ (HST.out Y ((HKY.out _ HSZ.out.2.2.1).trans (hB11.block _ HSZ.out.1)) ((HKY.out _ HSZ.out.2.2.2).trans (hB11.block _ HSZ.out.2.1))) (fun hHeld => ?_)
                    clear hK K'
                    refine wpAnyH_done (by kernel_rfl) ?_ _
                    have haN := HNN.out
                    clear hHeld CA CK HST HRO2 hB11 hB10 HY HT11 HKY hfd HSZ HB7 HO11 HB11
                    go_wp2_with fail
                    go_roundg g'
                    case measure => omega
                    case rel => exact ⟨k + 1, x'.n, x', zs, by go_num, by omega, by omega, haN, by rw [HLV.out]; omega, .inr (by rw [HLV.out]; omega), HZS, HX1, HIY⟩
                  · refine AllReadyH.cons rfl (fun K' hK => ?_) AllReadyH.nil
                    rw [if_pos (by rfl)]
                    go_simp
                    go_at_call 13
                    refine (CK.out W7 HB7.out).mono ?_
                    rintro e w10 ⟨cl2, rfl, hk2, hb10⟩
                    have hB10 : Below X.heap.size X w10 := HB7.out.trans (hb10.mono HB7.out.size)
                    have hfd : ∀ W, (Instr.field 65 (.agg cl2.toArray) 7).run Try.prog W = .ok (.int .u64 (x'.n : Int)) W := fun W => field37 cl2 _ hk2 W
                    refine hK.out _ _ (HST.out w10 (hB10.block _ HSZ.out.1) (hB10.block _ HSZ.out.2.1)) (fun hHeld => ?_)
                    clear hK K'
                    refine wpAnyH_take (i := 4) (v := .int .u64 (x'.n : Int)) rfl (by kernel_rfl) (by kernel_rfl) (by kernel_rfl) (fun _ _ _ h => h) (.inl ⟨by rfl, fun W hW => by go_simp⟩) hHeld ?_
                    simp only [Act.put, List.getElem_toArray, List.getElem_cons_zero, List.getElem_cons_succ, List.setIfInBounds_toArray, List.set_cons_zero, List.set_cons_succ]
                    refine wpAnyH_ready (rs := [0]) (by kernel_rfl) (by simp) ?_
                    refine AllReadyH.cons rfl (fun K' hK => ?_) AllReadyH.nil
                    rw [if_pos (by rfl)]
                    refine wp_load_mid 33 (.tmp 9) rfl w2.heap.size 0 rfl _ _ (HRO2.out w10 hB10) Try.underlying33 rfl sz_Out ?_
                    simp only [Act.put, List.getElem_toArray, List.getElem_cons_zero, List.getElem_cons_succ, List.setIfInBounds_toArray, List.set_cons_zero, List.set_cons_succ]
                    refine hK.out _ _ hHeld (fun hHeld => ?_)
                    clear hK K'
                    refine wpAnyH_ready (rs := [5]) (by kernel_rfl) (by simp) ?_
                    refine AllReadyH.cons rfl (fun K' hK => ?_) AllReadyH.nil
                    rw [if_pos (by rfl)]
                    go_simp
                    go_at_call 12
                    refine (CA.out w10 hB10).mono ?_
                    rintro e w11 ⟨q6, c6, rfl, HT11, HB11, Y, HY, HIY, HKY⟩
                    have hB11 : Below X.heap.size X w11 := hB10.trans (HB11.out.mono hB10.size)
                    have HO11 : Hid ((#[.int .u64 (s.qb : Int), .int .u64 (s.qn : Int), .int .i64 s.at_, .int .i64 s.fr, .int .i64 s.tq, .slice q6 bs.length c6, .int .u64 (x'.n : Int)] : Array Value).all (·.oneCell') = true) := by show _ = _; simp [Value.oneCell']
                    refine hK.out _ _ (HST.out w11 (hB11.block _ HSZ.out.1) (hB11.block _ HSZ.out.2.1)) (fun hHeld => ?_)
                    clear hK K'
                    refine wpAnyH_ready (rs := [6]) (by kernel_rfl) (by simp) ?_
                    refine AllReadyH.cons rfl (fun K' hK => ?_) AllReadyH.nil
                    rw [if_pos (by rfl)]
                    refine wp_store_mid 33 (.tmp 9) (.tmp 117) rfl w2.heap.size 0 #[.int .u64 (s.qb : Int), .int .u64 (s.qn : Int), .int .i64 s.at_, .int .i64 s.fr, .int .i64 s.tq, .slice q6 bs.length c6, .int .u64 (x'.n : Int)] rfl rfl HT11.out sz_Out HO11.out ?_
                    rw [HY.out]
                    refine hK.out _ _ (HST.out Y ((HKY.out _ HSZ.out.2.2.1).trans (hB11.block _ HSZ.out.1)) ((HKY.out _ HSZ.out.2.2.2).trans (hB11.block _ HSZ.out.2.1))) (fun hHeld => ?_)
                    clear hK K'
                    refine wpAnyH_done (by kernel_rfl) ?_ _
                    have haN := HNN.out
                    clear hHeld CA CK HST HRO2 hB11 hB10 HY HT11 HKY hfd HSZ HB7 HO11 HB11
                    go_wp2_with fail
                    go_roundg g'
                    case measure => omega
                    case rel => exact ⟨k + 1, x'.n, x', zs, by go_num, by omega, by omega, haN, by rw [HLV.out]; omega, .inr (by rw [HLV.out]; omega), HZS, HX1, HIY⟩
              · have zA : ¬ (k : Int) < (as_.length : Int) := by omega
                go_wp2_with (first | (refine wpList_load_mid rfl 39 _ rfl B17 0 rfl _ _ HRU9.out Try.underlying39 rfl sz_In ?_) | (refine wpList_store_mid rfl 39 _ _ rfl WS.heap.size 0 #[.int .u64 (s.qb : Int), .int .u64 (s.qn : Int), .int .i64 s.at_, .int .i64 s.fr, .int .i64 s.tq, .int .u64 (x'.n : Int), .slice q8 x'.h.length c8, .slice q9 x'.r.length c9, .bool x'.d] rfl rfl HTI.out sz_In HOI.out ?_; rw [HXI.out]))
                go_roundg g'
                case measure => omega
                case rel => exact ⟨k + 1, a, x', zs, by go_num, by omega, by omega, haN, by rw [HLV.out]; omega, .inr (by rw [HLV.out]; omega), HZS, HX1, HIX⟩
            · refine AllReadyH.cons rfl (fun K' hK => ?_) AllReadyH.nil
              rw [if_pos (by rfl)]
              obtain ⟨WA, hWA, hth, WU0, hWU0, hrs, hss, hbs, hrl⟩ := box_new W5 39 #[.int .u64 0, .int .u64 0, .int .i64 0, .int .i64 0, .int .i64 0, .int .u64 0, .slice none 0 0, .slice none 0 0, .bool false] [.int .u64 0, .int .u64 0, .int .i64 0, .int .i64 0, .int .i64 0, .int .u64 0, .slice none 0 0, .slice none 0 0, .bool false] rfl
              have hgA : WA.heap[W5.heap.size]? = some (.cells #[.int .u64 0, .int .u64 0, .int .i64 0, .int .i64 0, .int .i64 0, .int .u64 0, .slice none 0 0, .slice none 0 0, .bool false] 39 (0, 0)) := by rw [← hWA]; exact heap_alloc_new W5 _
              have hBA : Below XW.heap.size XW WA := HB5.out.trans (by rw [← hWA]; exact ((Below.refl _ _).alloc (Nat.le_refl _) _).mono HB5.out.size)
              clear hth hWU0 hrs hss hbs hrl
              go_simp
              refine hK.out _ _ ⟨HRg.out WA (hBA.block _ HGs.out.1), HRi.out WA (hBA.block _ HGs.out.2)⟩ (fun hHeld => ?_)
              clear hK K'
              refine wpAnyH_ready (rs := [11]) (by kernel_rfl) (by simp) ?_
              refine AllReadyH.cons rfl (fun K' hK => ?_) AllReadyH.nil
              rw [if_pos (by rfl)]
              clear hWA
              go_simp
              go_at_call 10
              refine (CT.out WA hBA).mono ?_
              rintro e w8 ⟨q8, c8, q9, c9, rfl, hr8, hb8⟩
              have hB8 : Below XW.heap.size XW w8 := hBA.trans (hb8.mono hBA.size)
              have hltA := (Array.getElem?_eq_some_iff.1 hgA).1
              have hg8 : w8.heap[W5.heap.size]? = some (.cells #[.int .u64 0, .int .u64 0, .int .i64 0, .int .i64 0, .int .i64 0, .int .u64 0, .slice none 0 0, .slice none 0 0, .bool false] 39 (0, 0)) := (hb8.block _ hltA).trans hgA
              obtain ⟨hth8, WU, hWU, _, hsU, hkU⟩ := put_row w8 W5.heap.size _ 39 hg8 [.int .u64 (s.qb : Int), .int .u64 (s.qn : Int), .int .i64 s.at_, .int .i64 s.fr, .int .i64 s.tq, .int .u64 (x'.n : Int), .slice q8 x'.h.length c8, .slice q9 x'.r.length c9, .bool x'.d] rfl Try.underlying39 rfl sz_In
              have hgU : WU.heap[W5.heap.size]? = some (.cells #[.int .u64 (s.qb : Int), .int .u64 (s.qn : Int), .int .i64 s.at_, .int .i64 s.fr, .int .i64 s.tq, .int .u64 (x'.n : Int), .slice q8 x'.h.length c8, .slice q9 x'.r.length c9, .bool x'.d] 39 (0, 0)) := by rw [← hWU]; exact box_full w8 W5.heap.size _ 39 hg8 [.int .u64 (s.qb : Int), .int .u64 (s.qn : Int), .int .i64 s.at_, .int .i64 s.fr, .int .i64 s.tq, .int .u64 (x'.n : Int), .slice q8 x'.h.length c8, .slice q9 x'.r.length c9, .bool x'.d] rfl
              have hBU : Below XW.heap.size XW WU := ⟨hkU.os.trans hB8.os, hkU.tape.trans hB8.tape, hkU.output.trans hB8.output, by have := hB8.size; omega, fun b hb => (hkU.block b (by have := HB5.out.size; show b ≠ _; omega)).trans (hB8.block b hb)⟩
              have HTH : Hid (w8.there W5.heap.size 0 9) := hth8
              have HWU : Hid (w8.setCells W5.heap.size 0 (#[.int .u64 (s.qb : Int), .int .u64 (s.qn : Int), .int .i64 s.at_, .int .i64 s.fr, .int .i64 s.tq, .int .u64 (x'.n : Int), .slice q8 x'.h.length c8, .slice q9 x'.r.length c9, .bool x'.d] : Array Value).toList = WU) := hWU
              have HO8 : Hid ((#[.int .u64 (s.qb : Int), .int .u64 (s.qn : Int), .int .i64 s.at_, .int .i64 s.fr, .int .i64 s.tq, .int .u64 (x'.n : Int), .slice q8 x'.h.length c8, .slice q9 x'.r.length c9, .bool x'.d] : Array Value).all (·.oneCell') = true) := by show _ = _; simp [Value.oneCell']
              have HRU : Hid (WU.rangeAt W5.heap.size 0 [.int .u64 (s.qb : Int), .int .u64 (s.qn : Int), .int .i64 s.at_, .int .i64 s.fr, .int .i64 s.tq, .int .u64 (x'.n : Int), .slice q8 x'.h.length c8, .slice q9 x'.r.length c9, .bool x'.d]) := fun j u hu => by rw [Nat.zero_add]; exact cell_of_row hgU (by simpa using hu)
              have HIU : Hid (rIn (From XW.heap.size WU) WU [.int .u64 (s.qb : Int), .int .u64 (s.qn : Int), .int .i64 s.at_, .int .i64 s.fr, .int .i64 s.tq, .int .u64 (x'.n : Int), .slice q8 x'.h.length c8, .slice q9 x'.r.length c9, .bool x'.d] x') := mIn _ _ _ _ _ _ (fun b hb => ⟨Nat.le_trans hBA.size hb.1, by have := hb.2; omega⟩) (hkU.less fun b hb => by have := hb.1; show b ≠ _; omega) hr8
              have hW5lt : W5.heap.size < WU.heap.size := (Array.getElem?_eq_some_iff.1 hgU).1
              refine hK.out _ _ ⟨HRg.out w8 (hB8.block _ HGs.out.1), HRi.out w8 (hB8.block _ HGs.out.2)⟩ (fun hHeld => ?_)
              clear hK K' hg8 hth8 hWU hgA hltA
              refine wpAnyH_take (i := 12) (v := .tuple #[.agg #[.int .u64 (s.qb : Int), .int .u64 (s.qn : Int), .int .i64 s.at_, .int .i64 s.fr, .int .i64 s.tq, .int .u64 (x'.n : Int), .slice q8 x'.h.length c8, .slice q9 x'.r.length c9, .bool x'.d], .int .i64 E]) rfl (by kernel_rfl) (by kernel_rfl) (by kernel_rfl) (fun _ _ _ h => h) (.inl ⟨by rfl, fun W hW => by go_simp⟩) hHeld ?_
              simp only [Act.put, List.getElem_toArray, List.getElem_cons_zero, List.getElem_cons_succ, List.setIfInBounds_toArray, List.set_cons_zero, List.set_cons_succ]
              refine wpAnyH_take (i := 13) (v := .agg #[.int .u64 (s.qb : Int), .int .u64 (s.qn : Int), .int .i64 s.at_, .int .i64 s.fr, .int .i64 s.tq, .int .u64 (x'.n : Int), .slice q8 x'.h.length c8, .slice q9 x'.r.length c9, .bool x'.d]) rfl (by kernel_rfl) (by kernel_rfl) (by kernel_rfl) (fun _ _ _ h => h) (.inl ⟨by rfl, fun W hW => by go_simp⟩) hHeld ?_
              simp only [Act.put, List.getElem_toArray, List.getElem_cons_zero, List.getElem_cons_succ, List.setIfInBounds_toArray, List.set_cons_zero, List.set_cons_succ]
              refine wpAnyH_take (i := 14) (v := .int .i64 E) rfl (by kernel_rfl) (by kernel_rfl) (by kernel_rfl) (fun _ _ _ h => h) (.inl ⟨by rfl, fun W hW => by go_simp⟩) hHeld ?_
              simp only [Act.put, List.getElem_toArray, List.getElem_cons_zero, List.getElem_cons_succ, List.setIfInBounds_toArray, List.set_cons_zero, List.set_cons_succ]
              refine wpAnyH_ready (rs := [16]) (by kernel_rfl) (by simp) ?_
              refine AllReadyH.cons rfl (fun K' hK => ?_) AllReadyH.nil
              rw [if_pos (by rfl)]
              refine wp_store_mid 39 (.tmp 17) (.tmp 83) rfl W5.heap.size 0 #[.int .u64 (s.qb : Int), .int .u64 (s.qn : Int), .int .i64 s.at_, .int .i64 s.fr, .int .i64 s.tq, .int .u64 (x'.n : Int), .slice q8 x'.h.length c8, .slice q9 x'.r.length c9, .bool x'.d] rfl rfl HTH.out sz_In HO8.out ?_
              rw [HWU.out]
              refine hK.out _ _ ⟨HRg.out WU (hBU.block _ HGs.out.1), HRi.out WU (hBU.block _ HGs.out.2)⟩ (fun hHeld => ?_)
              clear hK K'
              refine wpAnyH_ready (rs := [17]) (by kernel_rfl) (by simp) ?_
              refine AllReadyH.cons rfl (fun K' hK => ?_) AllReadyH.nil
              rw [if_pos (by rfl)]
              go_simp
              refine hK.out _ _ ⟨HRg.out WU (hBU.block _ HGs.out.1), HRi.out WU (hBU.block _ HGs.out.2)⟩ (fun hHeld => ?_)
              clear hK K'
              refine wpAnyH_done (by kernel_rfl) ?_ _
              obtain ⟨B17, hB17⟩ : ∃ B, W5.heap.size = B := ⟨_, rfl⟩
              rw [hB17] at HRU
              rw [hB17]
              have HBU : Hid (Below XW.heap.size XW WU) := hBU
              have HBL : Hid (B17 < WU.heap.size) := by show _ < _; rw [← hB17]; exact hW5lt
              clear hHeld hB8 hBU hBA HTH HWU HO8 hr8 hb8 hsU hkU hgU hB17 hW5lt
              have hb9 : bs.length ≤ 512 := by rw [HN.out]; omega
              have hb0 : 0 < bs.length := by rw [HN.out]; omega
              have CI0 := checkIn_any [.int .u64 (s.qb : Int), .int .u64 (s.qn : Int), .int .i64 s.at_, .int .i64 s.fr, .int .i64 s.tq, .int .u64 (x'.n : Int), .slice q8 x'.h.length c8, .slice q9 x'.r.length c9, .bool x'.d] x' (From XW.heap.size WU) WU HIU.out From.lt
              rw [HX1.out.ok HB8.out hb9 hb0] at CI0
              have CI := hid CI0
              have hfew := HX1.out.few HB8.out
              have zn : ¬ (x'.n : Int) < (x.n : Int) := by omega
              have zh : ¬ (4 : Int) ≤ (x'.h.length : Int) := by omega
              clear CI0 CT HRg HRi SZM HB5 zp zv zv2 zJu zJt zJn zJ zJ0 zJl hJ eap
              go_wp2_with (refine wpList_load_mid rfl 39 _ rfl B17 0 rfl _ _ HRU.out Try.underlying39 rfl sz_In ?_)
              refine CI.out.mono ?_
              rintro e w9 ⟨rfl, hbw⟩
              have hI9 := (HIr.out.later HBU.out).later hbw
              have hsB := HBU.out.size
              have hsW := hbw.size
              have hsI := HIr.out.sz
              have hob := HIr.out.own.block
              have c5 : w9.cell? ⟨B17, 5, none⟩ = some (.int .u64 (x'.n : Int)) := (hbw.cell (p := ⟨B17, 5, none⟩) HBL.out).trans (by have := HRU.out 5 _ rfl; rwa [Nat.zero_add] at this)
              have c6 : w9.cell? ⟨B17, 6, none⟩ = some (.slice q8 x'.h.length c8) := (hbw.cell (p := ⟨B17, 6, none⟩) HBL.out).trans (by have := HRU.out 6 _ rfl; rwa [Nat.zero_add] at this)
              obtain ⟨_, _, _, _, _, gi9, _⟩ := hI9.i
              have t5 : w9.cell? ⟨WS.heap.size, 5, none⟩ = some (.int .u64 (x.n : Int)) := cell_of_row (k := 5) gi9 rfl
              have HRU9 : Hid (w9.rangeAt B17 0 [.int .u64 (s.qb : Int), .int .u64 (s.qn : Int), .int .i64 s.at_, .int .i64 s.fr, .int .i64 s.tq, .int .u64 (x'.n : Int), .slice q8 x'.h.length c8, .slice q9 x'.r.length c9, .bool x'.d]) := fun j u hu => (hbw.cell (p := ⟨B17, 0 + j, none⟩) HBL.out).trans (HRU.out j u hu)
              obtain ⟨hthI, X, hX, hIX⟩ := hI9.putI (x' := x') (mIn _ _ _ _ _ _ (fun _ h => h) (kept_of From.lt hbw) HIU.out) (fun b hb => ⟨by have := hb.2; omega, by have := hb.1; omega, by have := hb.1; omega, fun e => by have := (hob b e).2; have := hb.1; omega⟩)
              have HIX : Hid (OncI s bs w w2.heap.size WS.heap.size WT.heap.size a x' (.slice (some ⟨g, o, none⟩) lv cv) zs X) := hIX
              have HTI : Hid (w9.there WS.heap.size 0 9) := hthI
              have HXI : Hid (w9.setCells WS.heap.size 0 (#[.int .u64 (s.qb : Int), .int .u64 (s.qn : Int), .int .i64 s.at_, .int .i64 s.fr, .int .i64 s.tq, .int .u64 (x'.n : Int), .slice q8 x'.h.length c8, .slice q9 x'.r.length c9, .bool x'.d] : Array Value).toList = X) := hX
              have HOI : Hid ((#[.int .u64 (s.qb : Int), .int .u64 (s.qn : Int), .int .i64 s.at_, .int .i64 s.fr, .int .i64 s.tq, .int .u64 (x'.n : Int), .slice q8 x'.h.length c8, .slice q9 x'.r.length c9, .bool x'.d] : Array Value).all (·.oneCell') = true) := by show _ = _; simp [Value.oneCell']
              clear hI9 hsB hsW hsI hob gi9 hthI hX hIX hbw CI HIr HIU HRU HBU HBL
              by_cases hkA : k < as_.length
              · have zA : (k : Int) < (as_.length : Int) := by omega
                obtain ⟨_, _, e1, _, hac⟩ := (HP.out X HIX.out.bel).2
                cases e1
                obtain ⟨ab, ao, rfl, _, haj⟩ := hac (by omega)
                obtain ⟨cs, _, har, rfl⟩ := haj k hkA
                have fa := har 0 _ rfl
                obtain ⟨av, hav⟩ : ∃ av, as_[k] = av := ⟨_, rfl⟩
                rw [hav] at fa
                rw [Nat.mul_one, Nat.add_zero] at fa
                clear hac haj har hav
                cases av
                · go_wp2_with (first | (refine wpList_load_mid rfl 39 _ rfl B17 0 rfl _ _ HRU9.out Try.underlying39 rfl sz_In ?_) | (refine wpList_store_mid rfl 39 _ _ rfl WS.heap.size 0 #[.int .u64 (s.qb : Int), .int .u64 (s.qn : Int), .int .i64 s.at_, .int .i64 s.fr, .int .i64 s.tq, .int .u64 (x'.n : Int), .slice q8 x'.h.length c8, .slice q9 x'.r.length c9, .bool x'.d] rfl rfl HTI.out sz_In HOI.out ?_; rw [HXI.out]))
                  go_roundg g'
                  case measure => omega
                  case rel => exact ⟨k + 1, a, x', zs, by go_num, by omega, by omega, haN, by rw [HLV.out]; omega, .inr (by rw [HLV.out]; omega), HZS, HX1, HIX⟩
                · go_wp2_with (first | (refine wpList_load_mid rfl 39 _ rfl B17 0 rfl _ _ HRU9.out Try.underlying39 rfl sz_In ?_) | (refine wpList_store_mid rfl 39 _ _ rfl WS.heap.size 0 #[.int .u64 (s.qb : Int), .int .u64 (s.qn : Int), .int .i64 s.at_, .int .i64 s.fr, .int .i64 s.tq, .int .u64 (x'.n : Int), .slice q8 x'.h.length c8, .slice q9 x'.r.length c9, .bool x'.d] rfl rfl HTI.out sz_In HOI.out ?_; rw [HXI.out]))
                  obtain ⟨qo2, co2, Ko2, go2, hKo2, hro2⟩ := HIX.out.o
                  obtain ⟨qi2, ci2, qr2, cr2, Ki2, gi2, hKi2, hri2⟩ := HIX.out.i
                  have hst2 := HIX.out.st
                  have hsz2 := HIX.out.sz
                  have HST : Hid (∀ V : World, V.heap[w.heap.size]? = X.heap[w.heap.size]? → V.heap[WS.heap.size]? = X.heap[WS.heap.size]? → V.rangeAt w.heap.size 0 [.int .u64 (s.qb : Int), .int .u64 (s.qn : Int), .int .i64 s.at_, .int .i64 s.fr, .int .i64 s.tq] ∧ V.rangeAt WS.heap.size 0 [.int .u64 (s.qb : Int), .int .u64 (s.qn : Int), .int .i64 s.at_, .int .i64 s.fr, .int .i64 s.tq, .int .u64 (x'.n : Int), .slice qi2 x'.h.length ci2, .slice qr2 x'.r.length cr2, .bool x'.d]) := fun V h1 h2 => ⟨fun j u hu => by rw [Nat.zero_add]; exact cell_of_row (h1.trans hst2) (by simpa using hu), fun j u hu => by rw [Nat.zero_add]; exact cell_of_row (h2.trans gi2) (by simpa using hu)⟩
                  have HRO2 : Hid (∀ V, Below X.heap.size X V → V.rangeAt w2.heap.size 0 [.int .u64 (s.qb : Int), .int .u64 (s.qn : Int), .int .i64 s.at_, .int .i64 s.fr, .int .i64 s.tq, .slice qo2 bs.length co2, .int .u64 (a : Int)]) := fun V hV j u hu => by rw [Nat.zero_add]; exact cell_of_row ((hV.block _ (by omega)).trans go2) (by simpa using hu)
                  have HSZ : Hid (w.heap.size < X.heap.size ∧ WS.heap.size < X.heap.size ∧ w.heap.size ≠ w2.heap.size ∧ WS.heap.size ≠ w2.heap.size) := ⟨by omega, by omega, by omega, by omega⟩
                  have CK : Hid (∀ V, Below X.heap.size X V → Calls Try.prog 13 #[.agg #[.int .u64 (s.qb : Int), .int .u64 (s.qn : Int), .int .i64 s.at_, .int .i64 s.fr, .int .i64 s.tq, .int .u64 (x'.n : Int), .slice qi2 x'.h.length ci2, .slice qr2 x'.r.length cr2, .bool x'.d]] V fun e w' => ∃ cl2 : List Value, e = .returned (.agg cl2.toArray) ∧ cl2[37]? = some (.int .u64 (x'.n : Int)) ∧ Below V.heap.size V w') := fun V hV => by
                    refine (ack_any _ x' Ki2 V (mIn _ _ _ _ _ _ (fun _ h => h) (kept_of (fun b hb => (hKi2 b hb).1) hV) hri2)).mono ?_
                    rintro e w' ⟨rfl, hb⟩
                    exact ⟨_, rfl, rfl, hb⟩
                  have hnl := HX1.out.n
                  have CA : Hid (∀ V, Below X.heap.size X V → Calls Try.prog 12 #[.agg #[.int .u64 (s.qb : Int), .int .u64 (s.qn : Int), .int .i64 s.at_, .int .i64 s.fr, .int .i64 s.tq, .slice qo2 bs.length co2, .int .u64 (a : Int)], .agg #[.int .u64 (s.qb : Int), .int .u64 (s.qn : Int), .int .i64 s.at_, .int .i64 s.fr, .int .i64 s.tq], .int .u64 (x'.n : Int)] V fun e w' => ∃ q6 c6, e = .returned (.agg #[.int .u64 (s.qb : Int), .int .u64 (s.qn : Int), .int .i64 s.at_, .int .i64 s.fr, .int .i64 s.tq, .slice q6 bs.length c6, .int .u64 (x'.n : Int)]) ∧ Hid (w'.there w2.heap.size 0 7) ∧ Hid (Below V.heap.size V w') ∧ ∃ Y, Hid (w'.setCells w2.heap.size 0 (#[.int .u64 (s.qb : Int), .int .u64 (s.qn : Int), .int .i64 s.at_, .int .i64 s.fr, .int .i64 s.tq, .slice q6 bs.length c6, .int .u64 (x'.n : Int)] : Array Value).toList = Y) ∧ Hid (OncI s bs w w2.heap.size WS.heap.size WT.heap.size x'.n x' (.slice (some ⟨g, o, none⟩) lv cv) zs Y) ∧ Hid (∀ b, b ≠ w2.heap.size → Y.heap[b]? = w'.heap[b]?)) := fun V hV => by
                    have hob := HIX.out.own.block
                    have CA0 := acked_any _ ⟨s, bs, a⟩ s x'.n Ko2 V (mOut _ _ _ _ _ _ (fun _ h => h) (kept_of (fun b hb => (hKo2 b hb).1) hV) hro2) HS.out (by omega) (fun b hb => Nat.lt_of_lt_of_le (hKo2 b hb).1 hV.size)
                    have hak : ackP ⟨s, bs, a⟩ s x'.n = ⟨s, bs, x'.n⟩ := by
                      unfold ackP; simp only []; rw [same_refl, decide_eq_true hnl]; rfl
                    rw [hak] at CA0
                    refine Calls.mono CA0 ?_
                    rintro e w6 ⟨cs6, rfl, hr6, hb6⟩
                    obtain ⟨q6, c6, rfl, _⟩ := out_cells hr6
                    have hsV := hV.size
                    obtain ⟨hth6, Y, hY, hIY⟩ := ((HIX.out.later hV).later hb6).putO (a' := x'.n) hr6 (fun b hb => ⟨hb.2, by have := hb.1; omega, by have := hb.1; omega, fun e => by have := (hob b e).2; have := hb.1; omega⟩)
                    refine ⟨q6, c6, rfl, hth6, hb6, Y, hY, hIY, fun b hb => ?_⟩
                    rw [← hY]
                    exact (setCells_any w2.heap.size _ 0 w6).2.2.2.2 b hb
                  obtain ⟨W7, hW7⟩ : ∃ W7, X.drew = W7 := ⟨_, rfl⟩
                  have hb7 : Below X.heap.size X W7 := by rw [← hW7]; exact (Below.refl _ _).drew
                  have HB7 := hid hb7
                  have HNN : Hid (x'.n ≤ N) := by show _ ≤ _; rw [← HN.out]; exact hnl
                  clear hb7 go2 hKo2 hro2 gi2 hKi2 hri2 hst2 hsz2 hnl
                  refine wp_region_held_drew (S := fun V => V.rangeAt w.heap.size 0 [.int .u64 (s.qb : Int), .int .u64 (s.qn : Int), .int .i64 s.at_, .int .i64 s.fr, .int .i64 s.tq] ∧ V.rangeAt WS.heap.size 0 [.int .u64 (s.qb : Int), .int .u64 (s.qn : Int), .int .i64 s.at_, .int .i64 s.fr, .int .i64 s.tq, .int .u64 (x'.n : Int), .slice qi2 x'.h.length ci2, .slice qr2 x'.r.length cr2, .bool x'.d]) (by kernel_rfl) (by rw [hW7]; exact HST.out W7 (HB7.out.block _ HSZ.out.1) (HB7.out.block _ HSZ.out.2.1)) (fun hHeld => ?_)
                  refine wpAnyH_take (i := 1) (v := .agg #[.int .u64 (s.qb : Int), .int .u64 (s.qn : Int), .int .i64 s.at_, .int .i64 s.fr, .int .i64 s.tq]) rfl (by kernel_rfl) (by kernel_rfl) (by kernel_rfl) (fun _ _ _ h => h) (yieldsIf_load_mid (by rfl) 26 (.tmp 4) rfl w.heap.size 0 rfl [.int .u64 (s.qb : Int), .int .u64 (s.qn : Int), .int .i64 s.at_, .int .i64 s.fr, .int .i64 s.tq] _ (fun W hW => hW.1) Try.underlying26 rfl sz_Strm) hHeld ?_
                  simp only [Act.put, List.getElem_toArray, List.getElem_cons_zero, List.getElem_cons_succ, List.setIfInBounds_toArray, List.set_cons_zero, List.set_cons_succ]
                  refine wpAnyH_take (i := 2) (v := (.agg #[.int .u64 (s.qb : Int), .int .u64 (s.qn : Int), .int .i64 s.at_, .int .i64 s.fr, .int .i64 s.tq, .int .u64 (x'.n : Int), .slice qi2 x'.h.length ci2, .slice qr2 x'.r.length cr2, .bool x'.d])) rfl (by kernel_rfl) (by kernel_rfl) (by kernel_rfl) (fun _ _ _ h => h) (yieldsIf_load_mid (by rfl) 39 (.tmp 11) rfl WS.heap.size 0 rfl [.int .u64 (s.qb : Int), .int .u64 (s.qn : Int), .int .i64 s.at_, .int .i64 s.fr, .int .i64 s.tq, .int .u64 (x'.n : Int), .slice qi2 x'.h.length ci2, .slice qr2 x'.r.length cr2, .bool x'.d] _ (fun W hW => hW.2) Try.underlying39 rfl sz_In) hHeld ?_
                  simp only [Act.put, List.getElem_toArray, List.getElem_cons_zero, List.getElem_cons_succ, List.setIfInBounds_toArray, List.set_cons_zero, List.set_cons_succ]
                  rw [hW7] at hHeld ⊢
                  clear hW7
                  refine wpAnyH_ready (rs := [0, 3]) (by kernel_rfl) (by simp) ?_
                  refine AllReadyH.cons rfl (fun K' hK => ?_) ?_
                  · rw [if_pos (by rfl)]
                    refine wp_load_mid 33 (.tmp 9) rfl w2.heap.size 0 rfl _ _ (HRO2.out W7 HB7.out) Try.underlying33 rfl sz_Out ?_
                    simp only [Act.put, List.getElem_toArray, List.getElem_cons_zero, List.getElem_cons_succ, List.setIfInBounds_toArray, List.set_cons_zero, List.set_cons_succ]
                    refine hK.out _ _ hHeld (fun hHeld => ?_)
                    clear hK K'
                    refine wpAnyH_ready (rs := [3]) (by kernel_rfl) (by simp) ?_
                    refine AllReadyH.cons rfl (fun K' hK => ?_) AllReadyH.nil
                    rw [if_pos (by rfl)]
                    go_simp
                    go_at_call 13
                    refine (CK.out W7 HB7.out).mono ?_
                    rintro e w10 ⟨cl2, rfl, hk2, hb10⟩
                    have hB10 : Below X.heap.size X w10 := HB7.out.trans (hb10.mono HB7.out.size)
                    have hfd : ∀ W, (Instr.field 65 (.agg cl2.toArray) 7).run Try.prog W = .ok (.int .u64 (x'.n : Int)) W := fun W => field37 cl2 _ hk2 W
                    refine hK.out _ _ (HST.out w10 (hB10.block _ HSZ.out.1) (hB10.block _ HSZ.out.2.1)) (fun hHeld => ?_)
                    clear hK K'
                    refine wpAnyH_take (i := 4) (v := .int .u64 (x'.n : Int)) rfl (by kernel_rfl) (by kernel_rfl) (by kernel_rfl) (fun _ _ _ h => h) (.inl ⟨by rfl, fun W hW => by go_simp⟩) hHeld ?_
                    simp only [Act.put, List.getElem_toArray, List.getElem_cons_zero, List.getElem_cons_succ, List.setIfInBounds_toArray, List.set_cons_zero, List.set_cons_succ]
                    refine wpAnyH_ready (rs := [5]) (by kernel_rfl) (by simp) ?_
                    refine AllReadyH.cons rfl (fun K' hK => ?_) AllReadyH.nil
                    rw [if_pos (by rfl)]
                    go_simp
                    go_at_call 12
                    refine (CA.out w10 hB10).mono ?_
                    rintro e w11 ⟨q6, c6, rfl, HT11, HB11, Y, HY, HIY, HKY⟩
                    have hB11 : Below X.heap.size X w11 := hB10.trans (HB11.out.mono hB10.size)
                    have HO11 : Hid ((#[.int .u64 (s.qb : Int), .int .u64 (s.qn : Int), .int .i64 s.at_, .int .i64 s.fr, .int .i64 s.tq, .slice q6 bs.length c6, .int .u64 (x'.n : Int)] : Array Value).all (·.oneCell') = true) := by show _ = _; simp [Value.oneCell']
                    refine hK.out _ _ (HST.out w11 (hB11.block _ HSZ.out.1) (hB11.block _ HSZ.out.2.1)) (fun hHeld => ?_)
                    clear hK K'
                    refine wpAnyH_ready (rs := [6]) (by kernel_rfl) (by simp) ?_
                    refine AllReadyH.cons rfl (fun K' hK => ?_) AllReadyH.nil
                    rw [if_pos (by rfl)]
                    refine wp_store_mid 33 (.tmp 9) (.tmp 117) rfl w2.heap.size 0 #[.int .u64 (s.qb : Int), .int .u64 (s.qn : Int), .int .i64 s.at_, .int .i64 s.fr, .int .i64 s.tq, .slice q6 bs.length c6, .int .u64 (x'.n : Int)] rfl rfl HT11.out sz_Out HO11.out ?_
                    rw [HY.out]
                    refine hK.out _ _ (HST.out Y ((HKY.out _ HSZ.out.2.2.1).trans (hB11.block _ HSZ.out.1)) ((HKY.out _ HSZ.out.2.2.2).trans (hB11.block _ HSZ.out.2.1))) (fun hHeld => ?_)
                    clear hK K'
                    refine wpAnyH_done (by kernel_rfl) ?_ _
                    have haN := HNN.out
                    clear hHeld CA CK HST HRO2 hB11 hB10 HY HT11 HKY hfd HSZ HB7 HO11 HB11
                    go_wp2_with fail
                    go_roundg g'
                    case measure => omega
                    case rel => exact ⟨k + 1, x'.n, x', zs, by go_num, by omega, by omega, haN, by rw [HLV.out]; omega, .inr (by rw [HLV.out]; omega), HZS, HX1, HIY⟩
                  · refine AllReadyH.cons rfl (fun K' hK => ?_) AllReadyH.nil
                    rw [if_pos (by rfl)]
                    go_simp
                    go_at_call 13
                    refine (CK.out W7 HB7.out).mono ?_
                    rintro e w10 ⟨cl2, rfl, hk2, hb10⟩
                    have hB10 : Below X.heap.size X w10 := HB7.out.trans (hb10.mono HB7.out.size)
                    have hfd : ∀ W, (Instr.field 65 (.agg cl2.toArray) 7).run Try.prog W = .ok (.int .u64 (x'.n : Int)) W := fun W => field37 cl2 _ hk2 W
                    refine hK.out _ _ (HST.out w10 (hB10.block _ HSZ.out.1) (hB10.block _ HSZ.out.2.1)) (fun hHeld => ?_)
                    clear hK K'
                    refine wpAnyH_take (i := 4) (v := .int .u64 (x'.n : Int)) rfl (by kernel_rfl) (by kernel_rfl) (by kernel_rfl) (fun _ _ _ h => h) (.inl ⟨by rfl, fun W hW => by go_simp⟩) hHeld ?_
                    simp only [Act.put, List.getElem_toArray, List.getElem_cons_zero, List.getElem_cons_succ, List.setIfInBounds_toArray, List.set_cons_zero, List.set_cons_succ]
                    refine wpAnyH_ready (rs := [0]) (by kernel_rfl) (by simp) ?_
                    refine AllReadyH.cons rfl (fun K' hK => ?_) AllReadyH.nil
                    rw [if_pos (by rfl)]
                    refine wp_load_mid 33 (.tmp 9) rfl w2.heap.size 0 rfl _ _ (HRO2.out w10 hB10) Try.underlying33 rfl sz_Out ?_
                    simp only [Act.put, List.getElem_toArray, List.getElem_cons_zero, List.getElem_cons_succ, List.setIfInBounds_toArray, List.set_cons_zero, List.set_cons_succ]
                    refine hK.out _ _ hHeld (fun hHeld => ?_)
                    clear hK K'
                    refine wpAnyH_ready (rs := [5]) (by kernel_rfl) (by simp) ?_
                    refine AllReadyH.cons rfl (fun K' hK => ?_) AllReadyH.nil
                    rw [if_pos (by rfl)]
                    go_simp
                    go_at_call 12
                    refine (CA.out w10 hB10).mono ?_
                    rintro e w11 ⟨q6, c6, rfl, HT11, HB11, Y, HY, HIY, HKY⟩
                    have hB11 : Below X.heap.size X w11 := hB10.trans (HB11.out.mono hB10.size)
                    have HO11 : Hid ((#[.int .u64 (s.qb : Int), .int .u64 (s.qn : Int), .int .i64 s.at_, .int .i64 s.fr, .int .i64 s.tq, .slice q6 bs.length c6, .int .u64 (x'.n : Int)] : Array Value).all (·.oneCell') = true) := by show _ = _; simp [Value.oneCell']
                    refine hK.out _ _ (HST.out w11 (hB11.block _ HSZ.out.1) (hB11.block _ HSZ.out.2.1)) (fun hHeld => ?_)
                    clear hK K'
                    refine wpAnyH_ready (rs := [6]) (by kernel_rfl) (by simp) ?_
                    refine AllReadyH.cons rfl (fun K' hK => ?_) AllReadyH.nil
                    rw [if_pos (by rfl)]
                    refine wp_store_mid 33 (.tmp 9) (.tmp 117) rfl w2.heap.size 0 #[.int .u64 (s.qb : Int), .int .u64 (s.qn : Int), .int .i64 s.at_, .int .i64 s.fr, .int .i64 s.tq, .slice q6 bs.length c6, .int .u64 (x'.n : Int)] rfl rfl HT11.out sz_Out HO11.out ?_
                    rw [HY.out]
                    refine hK.out _ _ (HST.out Y ((HKY.out _ HSZ.out.2.2.1).trans (hB11.block _ HSZ.out.1)) ((HKY.out _ HSZ.out.2.2.2).trans (hB11.block _ HSZ.out.2.1))) (fun hHeld => ?_)
                    clear hK K'
                    refine wpAnyH_done (by kernel_rfl) ?_ _
                    have haN := HNN.out
                    clear hHeld CA CK HST HRO2 hB11 hB10 HY HT11 HKY hfd HSZ HB7 HO11 HB11
                    go_wp2_with fail
                    go_roundg g'
                    case measure => omega
                    case rel => exact ⟨k + 1, x'.n, x', zs, by go_num, by omega, by omega, haN, by rw [HLV.out]; omega, .inr (by rw [HLV.out]; omega), HZS, HX1, HIY⟩
              · have zA : ¬ (k : Int) < (as_.length : Int) := by omega
                go_wp2_with (first | (refine wpList_load_mid rfl 39 _ rfl B17 0 rfl _ _ HRU9.out Try.underlying39 rfl sz_In ?_) | (refine wpList_store_mid rfl 39 _ _ rfl WS.heap.size 0 #[.int .u64 (s.qb : Int), .int .u64 (s.qn : Int), .int .i64 s.at_, .int .i64 s.fr, .int .i64 s.tq, .int .u64 (x'.n : Int), .slice q8 x'.h.length c8, .slice q9 x'.r.length c9, .bool x'.d] rfl rfl HTI.out sz_In HOI.out ?_; rw [HXI.out]))
                go_roundg g'
                case measure => omega
                case rel => exact ⟨k + 1, a, x', zs, by go_num, by omega, by omega, haN, by rw [HLV.out]; omega, .inr (by rw [HLV.out]; omega), HZS, HX1, HIX⟩
          · have zx : ¬ (lx : Int) < 2000 := by omega
            have hvl := HI4.out.own.list mMg (bytes := 640) (by rw [HLX.out]; omega)
            obtain ⟨_, _, e9, hvl⟩ := hvl
            rw [HLX.out] at e9 hvl
            cases e9
            have HLV := HLX
            have HZS := HXS
            have hlo : 0 < lx ∧ lx ≤ 2003 := by omega
            have HIr := HI4
            clear HSD HI5 eap HI4
            obtain ⟨J, hJ⟩ : ∃ J : Nat, (p % 18446744073709551616).tmod (lx : Int) = (J : Int) := ⟨((p % 18446744073709551616).tmod (lx : Int)).toNat, by rw [Int.toNat_of_nonneg (Int.tmod_nonneg _ (by omega))]⟩
            have hJl : J < lx := by have := Int.tmod_lt_of_pos (p % 18446744073709551616) (show (0 : Int) < (lx : Int) by omega); omega
            obtain ⟨g, o, cl, rfl, hKg, hrg, hlen, hmg⟩ := msg_at hvl J (by rw [HLV.out]; exact hJl)
            obtain ⟨j, hjN, hjE⟩ := HZS.out _ (List.getElem_mem (show J < xs.length by rw [HLV.out]; exact hJl))
            rw [hjE] at hmg
            obtain ⟨hX1, hXn⟩ := HX.out.take j hjN
            have hm1 := hX1.m
            obtain ⟨qi, ci, qr, cr, Ki, gi, hKi, hri⟩ := HIr.out.i
            have hb9 : bs.length ≤ 512 := by rw [HN.out]; omega
            have hb0 : 0 < bs.length := by omega
            have hin := HX.out.ok HB8.out hb9 hb0
            have hmx : (mgAt s bs j).m = x.m := HX.out.m.symm
            have CT0 : ∀ V, Below w4.heap.size w4 V → Calls Try.prog 10 #[.agg #[.int .u64 (s.qb : Int), .int .u64 (s.qn : Int), .int .i64 s.at_, .int .i64 s.fr, .int .i64 s.tq, .int .u64 (x.n : Int), .slice qi x.h.length ci, .slice qr x.r.length cr, .bool x.d], .agg cl.toArray] V fun e w' => ∃ q8 c8 q9 c9, e = .returned (.tuple #[.agg #[.int .u64 (s.qb : Int), .int .u64 (s.qn : Int), .int .i64 s.at_, .int .i64 s.fr, .int .i64 s.tq, .int .u64 ((takeP x (mgAt s bs j)).n : Int), .slice q8 (takeP x (mgAt s bs j)).h.length c8, .slice q9 (takeP x (mgAt s bs j)).r.length c9, .bool (takeP x (mgAt s bs j)).d], .int .i64 (refE x (mgAt s bs j))]) ∧ rIn (From V.heap.size w') w' [.int .u64 (s.qb : Int), .int .u64 (s.qn : Int), .int .i64 s.at_, .int .i64 s.fr, .int .i64 s.tq, .int .u64 ((takeP x (mgAt s bs j)).n : Int), .slice q8 (takeP x (mgAt s bs j)).h.length c8, .slice q9 (takeP x (mgAt s bs j)).r.length c9, .bool (takeP x (mgAt s bs j)).d] (takeP x (mgAt s bs j)) ∧ Below V.heap.size V w' := fun V hV => by
              have := take_cells [.int .u64 (s.qb : Int), .int .u64 (s.qn : Int), .int .i64 s.at_, .int .i64 s.fr, .int .i64 s.tq, .int .u64 (x.n : Int), .slice qi x.h.length ci, .slice qr x.r.length cr, .bool x.d] cl x (mgAt s bs j) (fun b => b < w4.heap.size) V (mIn _ _ _ _ _ _ (fun b hb => (hKi b hb).1) (kept_of (fun b hb => (hKi b hb).1) hV) hri) hin (mMg _ _ _ _ _ _ (fun b hb => hb.2) (kept_of (fun b hb => hb.2) hV) hmg) hmx (mgAt_le s bs j HB8.out) (fun b hb => Nat.lt_of_lt_of_le hb hV.size)
              rw [hm1] at this
              exact this
            obtain ⟨x', hx'⟩ : ∃ x', takeP x (mgAt s bs j) = x' := ⟨_, rfl⟩
            obtain ⟨E, hE⟩ : ∃ E, refE x (mgAt s bs j) = E := ⟨_, rfl⟩
            rw [hx'] at CT0 hX1 hXn
            rw [hE] at CT0
            have CT := hid CT0
            have HX1 : Hid (OnI s bs x') := hX1
            have HRg : Hid (∀ V : World, V.heap[g]? = w4.heap[g]? → V.rangeAt g (o + J * 47) cl) := fun V hV j u hu => (World.cell?_of_block (a := ⟨g, o + J * 47 + j, none⟩) hV).trans (hrg j u hu)
            have HRi : Hid (∀ V : World, V.heap[WS.heap.size]? = w4.heap[WS.heap.size]? → V.rangeAt WS.heap.size 0 [.int .u64 (s.qb : Int), .int .u64 (s.qn : Int), .int .i64 s.at_, .int .i64 s.fr, .int .i64 s.tq, .int .u64 (x.n : Int), .slice qi x.h.length ci, .slice qr x.r.length cr, .bool x.d]) := fun V hV j u hu => by rw [Nat.zero_add]; exact cell_of_row (hV.trans gi) (by simpa using hu)
            have SZM : Hid ((Try.prog.info? 65).map (·.size) = some cl.length) := by show _ = _; rw [hlen]; exact sz_Msg
            have HGs : Hid (g < w4.heap.size ∧ WS.heap.size < w4.heap.size) := ⟨hKg.2, by have := HIr.out.sz; omega⟩
            have zv : ((lx : Int) == 0) = false := beq_eq_false_iff_ne.2 (by omega)
            have zp : IntKind.u64.wrap p = p % 18446744073709551616 := by rw [IntKind.wrap_u64]
            have zv2 : IntKind.u64.wrap (lx : Int) = (lx : Int) := by rw [IntKind.wrap_u64]; omega
            have zJu : IntKind.u64.wrap (J : Int) = (J : Int) := by rw [IntKind.wrap_u64]; omega
            have zJt : J < lx := hJl
            have zv0 : ¬ lx = 0 := by omega
            have zJn : (J : Int).toNat = J := by omega
            have zJ : IntKind.i64.wrap (J : Int) = (J : Int) := by rw [IntKind.wrap_i64]; omega
            have zJ0 : (0 : Int) ≤ (J : Int) := by omega
            have zJl : (J : Int) < (lx : Int) := by omega
            clear hvl hKg hrg hlen hmg hjE hX1 hm1 gi hKi hri hb9 hb0 hin hmx CT0 hx' hE
            obtain ⟨W5, hW5⟩ : ∃ W5, w4.drew = W5 := ⟨_, rfl⟩
            have hb5 : Below w4.heap.size w4 W5 := by rw [← hW5]; exact (Below.refl _ _).drew
            have HB5 := hid hb5
            clear hb5
            go_wp2_with fail
            refine wp_region_held_drew (S := fun V => V.rangeAt g (o + J * 47) cl ∧ V.rangeAt WS.heap.size 0 [.int .u64 (s.qb : Int), .int .u64 (s.qn : Int), .int .i64 s.at_, .int .i64 s.fr, .int .i64 s.tq, .int .u64 (x.n : Int), .slice qi x.h.length ci, .slice qr x.r.length cr, .bool x.d]) (by kernel_rfl) (by rw [hW5]; exact ⟨HRg.out W5 (HB5.out.block _ HGs.out.1), HRi.out W5 (HB5.out.block _ HGs.out.2)⟩) (fun hHeld => ?_)
            refine wpAnyH_take (i := 0) (v := .agg #[.int .u64 (s.qb : Int), .int .u64 (s.qn : Int), .int .i64 s.at_, .int .i64 s.fr, .int .i64 s.tq, .int .u64 (x.n : Int), .slice qi x.h.length ci, .slice qr x.r.length cr, .bool x.d]) rfl (by kernel_rfl) (by kernel_rfl) (by kernel_rfl) (fun _ _ _ h => h) (yieldsIf_load_mid (by rfl) 39 (.tmp 11) rfl WS.heap.size 0 rfl [.int .u64 (s.qb : Int), .int .u64 (s.qn : Int), .int .i64 s.at_, .int .i64 s.fr, .int .i64 s.tq, .int .u64 (x.n : Int), .slice qi x.h.length ci, .slice qr x.r.length cr, .bool x.d] _ (fun W hW => hW.2) Try.underlying39 rfl sz_In) hHeld ?_
            simp only [Act.put, List.getElem_toArray, List.getElem_cons_zero, List.getElem_cons_succ, List.setIfInBounds_toArray, List.set_cons_zero, List.set_cons_succ]
            refine wpAnyH_take (i := 1) (v := .slice (some ⟨g, o, none⟩) lx cu) rfl (by kernel_rfl) (by kernel_rfl) (by kernel_rfl) (fun _ _ _ h => h) (.inl ⟨by rfl, fun W hW => by go_simp⟩) hHeld ?_
            simp only [Act.put, List.getElem_toArray, List.getElem_cons_zero, List.getElem_cons_succ, List.setIfInBounds_toArray, List.set_cons_zero, List.set_cons_succ]
            refine wpAnyH_take (i := 2) (v := .int .i64 p) rfl (by kernel_rfl) (by kernel_rfl) (by kernel_rfl) (fun _ _ _ h => h) (.inl ⟨by rfl, fun W hW => by go_simp⟩) hHeld ?_
            simp only [Act.put, List.getElem_toArray, List.getElem_cons_zero, List.getElem_cons_succ, List.setIfInBounds_toArray, List.set_cons_zero, List.set_cons_succ]
            refine wpAnyH_take (i := 3) (v := .int .u64 (p % 18446744073709551616)) rfl (by kernel_rfl) (by kernel_rfl) (by kernel_rfl) (fun _ _ _ h => h) (.inl ⟨by rfl, fun W hW => by go_simp⟩) hHeld ?_
            simp only [Act.put, List.getElem_toArray, List.getElem_cons_zero, List.getElem_cons_succ, List.setIfInBounds_toArray, List.set_cons_zero, List.set_cons_succ]
            refine wpAnyH_take (i := 4) (v := .slice (some ⟨g, o, none⟩) lx cu) rfl (by kernel_rfl) (by kernel_rfl) (by kernel_rfl) (fun _ _ _ h => h) (.inl ⟨by rfl, fun W hW => by go_simp⟩) hHeld ?_
            simp only [Act.put, List.getElem_toArray, List.getElem_cons_zero, List.getElem_cons_succ, List.setIfInBounds_toArray, List.set_cons_zero, List.set_cons_succ]
            refine wpAnyH_take (i := 5) (v := .int .i64 (lx : Int)) rfl (by kernel_rfl) (by kernel_rfl) (by kernel_rfl) (fun _ _ _ h => h) (.inl ⟨by rfl, fun W hW => by go_simp⟩) hHeld ?_
            simp only [Act.put, List.getElem_toArray, List.getElem_cons_zero, List.getElem_cons_succ, List.setIfInBounds_toArray, List.set_cons_zero, List.set_cons_succ]
            refine wpAnyH_take (i := 6) (v := .int .u64 (lx : Int)) rfl (by kernel_rfl) (by kernel_rfl) (by kernel_rfl) (fun _ _ _ h => h) (.inl ⟨by rfl, fun W hW => by go_simp⟩) hHeld ?_
            simp only [Act.put, List.getElem_toArray, List.getElem_cons_zero, List.getElem_cons_succ, List.setIfInBounds_toArray, List.set_cons_zero, List.set_cons_succ]
            refine wpAnyH_take (i := 7) (v := .int .u64 (J : Int)) rfl (by kernel_rfl) (by kernel_rfl) (by kernel_rfl) (fun _ _ _ h => h) (.inl ⟨by rfl, fun W hW => by go_simp⟩) hHeld ?_
            simp only [Act.put, List.getElem_toArray, List.getElem_cons_zero, List.getElem_cons_succ, List.setIfInBounds_toArray, List.set_cons_zero, List.set_cons_succ]
            refine wpAnyH_take (i := 8) (v := .int .i64 (J : Int)) rfl (by kernel_rfl) (by kernel_rfl) (by kernel_rfl) (fun _ _ _ h => h) (.inl ⟨by rfl, fun W hW => by go_simp⟩) hHeld ?_
            simp only [Act.put, List.getElem_toArray, List.getElem_cons_zero, List.getElem_cons_succ, List.setIfInBounds_toArray, List.set_cons_zero, List.set_cons_succ]
            refine wpAnyH_take (i := 9) (v := .pointer (some ⟨g, o + J * 47, none⟩)) rfl (by kernel_rfl) (by kernel_rfl) (by kernel_rfl) (fun _ _ _ h => h) (.inl ⟨by rfl, fun W hW => by go_simp⟩) hHeld ?_
            simp only [Act.put, List.getElem_toArray, List.getElem_cons_zero, List.getElem_cons_succ, List.setIfInBounds_toArray, List.set_cons_zero, List.set_cons_succ]
            refine wpAnyH_take (i := 10) (v := .agg cl.toArray) rfl (by kernel_rfl) (by kernel_rfl) (by kernel_rfl) (fun _ _ _ h => h) (yieldsIf_load_mid (by rfl) 65 (.tmp 80) rfl g (o + J * 47) rfl cl _ (fun W hW => hW.1) Try.underlying65 rfl SZM.out) hHeld ?_
            simp only [Act.put, List.getElem_toArray, List.getElem_cons_zero, List.getElem_cons_succ, List.setIfInBounds_toArray, List.set_cons_zero, List.set_cons_succ]
            rw [hW5] at hHeld ⊢
            clear hW5
            refine wpAnyH_ready (rs := [11, 15]) (by kernel_rfl) (by simp) ?_
            refine AllReadyH.cons rfl (fun K' hK => ?_) ?_
            · rw [if_pos (by rfl)]
              go_simp
              go_at_call 10
              refine (CT.out W5 HB5.out).mono ?_
              rintro e w8 ⟨q8, c8, q9, c9, rfl, hr8, hb8⟩
              have hB8 : Below w4.heap.size w4 w8 := HB5.out.trans (hb8.mono HB5.out.size)
              refine hK.out _ _ ⟨HRg.out w8 (hB8.block _ HGs.out.1), HRi.out w8 (hB8.block _ HGs.out.2)⟩ (fun hHeld => ?_)
              clear hK K'
              refine wpAnyH_take (i := 12) (v := .tuple #[.agg #[.int .u64 (s.qb : Int), .int .u64 (s.qn : Int), .int .i64 s.at_, .int .i64 s.fr, .int .i64 s.tq, .int .u64 (x'.n : Int), .slice q8 x'.h.length c8, .slice q9 x'.r.length c9, .bool x'.d], .int .i64 E]) rfl (by kernel_rfl) (by kernel_rfl) (by kernel_rfl) (fun _ _ _ h => h) (.inl ⟨by rfl, fun W hW => by go_simp⟩) hHeld ?_
              simp only [Act.put, List.getElem_toArray, List.getElem_cons_zero, List.getElem_cons_succ, List.setIfInBounds_toArray, List.set_cons_zero, List.set_cons_succ]
              refine wpAnyH_take (i := 13) (v := .agg #[.int .u64 (s.qb : Int), .int .u64 (s.qn : Int), .int .i64 s.at_, .int .i64 s.fr, .int .i64 s.tq, .int .u64 (x'.n : Int), .slice q8 x'.h.length c8, .slice q9 x'.r.length c9, .bool x'.d]) rfl (by kernel_rfl) (by kernel_rfl) (by kernel_rfl) (fun _ _ _ h => h) (.inl ⟨by rfl, fun W hW => by go_simp⟩) hHeld ?_
              simp only [Act.put, List.getElem_toArray, List.getElem_cons_zero, List.getElem_cons_succ, List.setIfInBounds_toArray, List.set_cons_zero, List.set_cons_succ]
              refine wpAnyH_take (i := 14) (v := .int .i64 E) rfl (by kernel_rfl) (by kernel_rfl) (by kernel_rfl) (fun _ _ _ h => h) (.inl ⟨by rfl, fun W hW => by go_simp⟩) hHeld ?_
              simp only [Act.put, List.getElem_toArray, List.getElem_cons_zero, List.getElem_cons_succ, List.setIfInBounds_toArray, List.set_cons_zero, List.set_cons_succ]
              refine wpAnyH_ready (rs := [15]) (by kernel_rfl) (by simp) ?_
              refine AllReadyH.cons rfl (fun K' hK => ?_) AllReadyH.nil
              rw [if_pos (by rfl)]
              obtain ⟨WA, hWA, hth, WU, hWU, hrs, hss, hbs, hrl⟩ := box_new w8 39 #[.int .u64 0, .int .u64 0, .int .i64 0, .int .i64 0, .int .i64 0, .int .u64 0, .slice none 0 0, .slice none 0 0, .bool false] [.int .u64 (s.qb : Int), .int .u64 (s.qn : Int), .int .i64 s.at_, .int .i64 s.fr, .int .i64 s.tq, .int .u64 (x'.n : Int), .slice q8 x'.h.length c8, .slice q9 x'.r.length c9, .bool x'.d] rfl
              have hBU : Below w4.heap.size w4 WU := hB8.trans (hbs.mono hB8.size)
              have hBA : Below w4.heap.size w4 WA := hB8.trans (by rw [← hWA]; exact ((Below.refl _ _).alloc (Nat.le_refl _) _).mono hB8.size)
              have HTH : Hid (WA.there w8.heap.size 0 9) := hth
              have HWU : Hid (WA.setCells w8.heap.size 0 (#[.int .u64 (s.qb : Int), .int .u64 (s.qn : Int), .int .i64 s.at_, .int .i64 s.fr, .int .i64 s.tq, .int .u64 (x'.n : Int), .slice q8 x'.h.length c8, .slice q9 x'.r.length c9, .bool x'.d] : Array Value).toList = WU) := hWU
              have HO8 : Hid ((#[.int .u64 (s.qb : Int), .int .u64 (s.qn : Int), .int .i64 s.at_, .int .i64 s.fr, .int .i64 s.tq, .int .u64 (x'.n : Int), .slice q8 x'.h.length c8, .slice q9 x'.r.length c9, .bool x'.d] : Array Value).all (·.oneCell') = true) := by show _ = _; simp [Value.oneCell']
              have HRU : Hid (WU.rangeAt w8.heap.size 0 [.int .u64 (s.qb : Int), .int .u64 (s.qn : Int), .int .i64 s.at_, .int .i64 s.fr, .int .i64 s.tq, .int .u64 (x'.n : Int), .slice q8 x'.h.length c8, .slice q9 x'.r.length c9, .bool x'.d]) := hrs
              have HIU : Hid (rIn (From w4.heap.size WU) WU [.int .u64 (s.qb : Int), .int .u64 (s.qn : Int), .int .i64 s.at_, .int .i64 s.fr, .int .i64 s.tq, .int .u64 (x'.n : Int), .slice q8 x'.h.length c8, .slice q9 x'.r.length c9, .bool x'.d] x') := mIn _ _ _ _ _ _ (fun b hb => ⟨Nat.le_trans HB5.out.size hb.1, Nat.lt_of_lt_of_le hb.2 hbs.size⟩) (kept_of From.lt hbs) hr8
              go_simp
              refine hK.out _ _ ⟨HRg.out WA (hBA.block _ HGs.out.1), HRi.out WA (hBA.block _ HGs.out.2)⟩ (fun hHeld => ?_)
              clear hK K' hth hWU hrs hrl
              refine wpAnyH_ready (rs := [16]) (by kernel_rfl) (by simp) ?_
              refine AllReadyH.cons rfl (fun K' hK => ?_) AllReadyH.nil
              rw [if_pos (by rfl)]
              refine wp_store_mid 39 (.tmp 17) (.tmp 83) rfl w8.heap.size 0 #[.int .u64 (s.qb : Int), .int .u64 (s.qn : Int), .int .i64 s.at_, .int .i64 s.fr, .int .i64 s.tq, .int .u64 (x'.n : Int), .slice q8 x'.h.length c8, .slice q9 x'.r.length c9, .bool x'.d] rfl rfl HTH.out sz_In HO8.out ?_
              rw [HWU.out]
              refine hK.out _ _ ⟨HRg.out WU (hBU.block _ HGs.out.1), HRi.out WU (hBU.block _ HGs.out.2)⟩ (fun hHeld => ?_)
              clear hK K'
              refine wpAnyH_ready (rs := [17]) (by kernel_rfl) (by simp) ?_
              refine AllReadyH.cons rfl (fun K' hK => ?_) AllReadyH.nil
              rw [if_pos (by rfl)]
              go_simp
              refine hK.out _ _ ⟨HRg.out WU (hBU.block _ HGs.out.1), HRi.out WU (hBU.block _ HGs.out.2)⟩ (fun hHeld => ?_)
              clear hK K'
              refine wpAnyH_done (by kernel_rfl) ?_ _
              obtain ⟨B17, hB17⟩ : ∃ B, w8.heap.size = B := ⟨_, rfl⟩
              rw [hB17] at HRU
              rw [hB17]
              have HBU : Hid (Below w4.heap.size w4 WU) := hBU
              have HBL : Hid (B17 < WU.heap.size) := by show _ < _; rw [← hB17]; omega
              clear hHeld hB8 hBU hBA HTH HWU HO8 hr8 hb8 hbs hss hB17 hWA
              have hb9 : bs.length ≤ 512 := by rw [HN.out]; omega
              have hb0 : 0 < bs.length := by rw [HN.out]; omega
              have CI0 := checkIn_any [.int .u64 (s.qb : Int), .int .u64 (s.qn : Int), .int .i64 s.at_, .int .i64 s.fr, .int .i64 s.tq, .int .u64 (x'.n : Int), .slice q8 x'.h.length c8, .slice q9 x'.r.length c9, .bool x'.d] x' (From w4.heap.size WU) WU HIU.out From.lt
              rw [HX1.out.ok HB8.out hb9 hb0] at CI0
              have CI := hid CI0
              have hfew := HX1.out.few HB8.out
              have zn : ¬ (x'.n : Int) < (x.n : Int) := by omega
              have zh : ¬ (4 : Int) ≤ (x'.h.length : Int) := by omega
              clear CI0 CT HRg HRi SZM HB5 zp zv zv2 zJu zJt zJn zJ zJ0 zJl hJ
              go_wp2_with (refine wpList_load_mid rfl 39 _ rfl B17 0 rfl _ _ HRU.out Try.underlying39 rfl sz_In ?_)
              refine CI.out.mono ?_
              rintro e w9 ⟨rfl, hbw⟩
              have hI9 := (HIr.out.later HBU.out).later hbw
              have hsB := HBU.out.size
              have hsW := hbw.size
              have hsI := HIr.out.sz
              have hob := HIr.out.own.block
              have c5 : w9.cell? ⟨B17, 5, none⟩ = some (.int .u64 (x'.n : Int)) := (hbw.cell (p := ⟨B17, 5, none⟩) HBL.out).trans (by have := HRU.out 5 _ rfl; rwa [Nat.zero_add] at this)
              have c6 : w9.cell? ⟨B17, 6, none⟩ = some (.slice q8 x'.h.length c8) := (hbw.cell (p := ⟨B17, 6, none⟩) HBL.out).trans (by have := HRU.out 6 _ rfl; rwa [Nat.zero_add] at this)
              obtain ⟨_, _, _, _, _, gi9, _⟩ := hI9.i
              have t5 : w9.cell? ⟨WS.heap.size, 5, none⟩ = some (.int .u64 (x.n : Int)) := cell_of_row (k := 5) gi9 rfl
              have HRU9 : Hid (w9.rangeAt B17 0 [.int .u64 (s.qb : Int), .int .u64 (s.qn : Int), .int .i64 s.at_, .int .i64 s.fr, .int .i64 s.tq, .int .u64 (x'.n : Int), .slice q8 x'.h.length c8, .slice q9 x'.r.length c9, .bool x'.d]) := fun j u hu => (hbw.cell (p := ⟨B17, 0 + j, none⟩) HBL.out).trans (HRU.out j u hu)
              obtain ⟨hthI, X, hX, hIX⟩ := hI9.putI (x' := x') (mIn _ _ _ _ _ _ (fun _ h => h) (kept_of From.lt hbw) HIU.out) (fun b hb => ⟨by have := hb.2; omega, by have := hb.1; omega, by have := hb.1; omega, fun e => by have := (hob b e).2; have := hb.1; omega⟩)
              have HIX : Hid (OncI s bs w w2.heap.size WS.heap.size WT.heap.size a x' (.slice (some ⟨g, o, none⟩) lx cu) xs X) := hIX
              have HTI : Hid (w9.there WS.heap.size 0 9) := hthI
              have HXI : Hid (w9.setCells WS.heap.size 0 (#[.int .u64 (s.qb : Int), .int .u64 (s.qn : Int), .int .i64 s.at_, .int .i64 s.fr, .int .i64 s.tq, .int .u64 (x'.n : Int), .slice q8 x'.h.length c8, .slice q9 x'.r.length c9, .bool x'.d] : Array Value).toList = X) := hX
              have HOI : Hid ((#[.int .u64 (s.qb : Int), .int .u64 (s.qn : Int), .int .i64 s.at_, .int .i64 s.fr, .int .i64 s.tq, .int .u64 (x'.n : Int), .slice q8 x'.h.length c8, .slice q9 x'.r.length c9, .bool x'.d] : Array Value).all (·.oneCell') = true) := by show _ = _; simp [Value.oneCell']
              clear hI9 hsB hsW hsI hob gi9 hthI hX hIX hbw CI HIr HIU HRU HBU HBL
              by_cases hkA : k < as_.length
              · have zA : (k : Int) < (as_.length : Int) := by omega
                obtain ⟨_, _, e1, _, hac⟩ := (HP.out X HIX.out.bel).2
                cases e1
                obtain ⟨ab, ao, rfl, _, haj⟩ := hac (by omega)
                obtain ⟨cs, _, har, rfl⟩ := haj k hkA
                have fa := har 0 _ rfl
                obtain ⟨av, hav⟩ : ∃ av, as_[k] = av := ⟨_, rfl⟩
                rw [hav] at fa
                rw [Nat.mul_one, Nat.add_zero] at fa
                clear hac haj har hav
                cases av
                · go_wp2_with (first | (refine wpList_load_mid rfl 39 _ rfl B17 0 rfl _ _ HRU9.out Try.underlying39 rfl sz_In ?_) | (refine wpList_store_mid rfl 39 _ _ rfl WS.heap.size 0 #[.int .u64 (s.qb : Int), .int .u64 (s.qn : Int), .int .i64 s.at_, .int .i64 s.fr, .int .i64 s.tq, .int .u64 (x'.n : Int), .slice q8 x'.h.length c8, .slice q9 x'.r.length c9, .bool x'.d] rfl rfl HTI.out sz_In HOI.out ?_; rw [HXI.out]))
                  go_roundg g'
                  case measure => omega
                  case rel => exact ⟨k + 1, a, x', xs, by go_num, by omega, by omega, haN, by rw [HLV.out]; omega, .inr (by rw [HLV.out]; omega), HZS, HX1, HIX⟩
                · go_wp2_with (first | (refine wpList_load_mid rfl 39 _ rfl B17 0 rfl _ _ HRU9.out Try.underlying39 rfl sz_In ?_) | (refine wpList_store_mid rfl 39 _ _ rfl WS.heap.size 0 #[.int .u64 (s.qb : Int), .int .u64 (s.qn : Int), .int .i64 s.at_, .int .i64 s.fr, .int .i64 s.tq, .int .u64 (x'.n : Int), .slice q8 x'.h.length c8, .slice q9 x'.r.length c9, .bool x'.d] rfl rfl HTI.out sz_In HOI.out ?_; rw [HXI.out]))
                  obtain ⟨qo2, co2, Ko2, go2, hKo2, hro2⟩ := HIX.out.o
                  obtain ⟨qi2, ci2, qr2, cr2, Ki2, gi2, hKi2, hri2⟩ := HIX.out.i
                  have hst2 := HIX.out.st
                  have hsz2 := HIX.out.sz
                  have HST : Hid (∀ V : World, V.heap[w.heap.size]? = X.heap[w.heap.size]? → V.heap[WS.heap.size]? = X.heap[WS.heap.size]? → V.rangeAt w.heap.size 0 [.int .u64 (s.qb : Int), .int .u64 (s.qn : Int), .int .i64 s.at_, .int .i64 s.fr, .int .i64 s.tq] ∧ V.rangeAt WS.heap.size 0 [.int .u64 (s.qb : Int), .int .u64 (s.qn : Int), .int .i64 s.at_, .int .i64 s.fr, .int .i64 s.tq, .int .u64 (x'.n : Int), .slice qi2 x'.h.length ci2, .slice qr2 x'.r.length cr2, .bool x'.d]) := fun V h1 h2 => ⟨fun j u hu => by rw [Nat.zero_add]; exact cell_of_row (h1.trans hst2) (by simpa using hu), fun j u hu => by rw [Nat.zero_add]; exact cell_of_row (h2.trans gi2) (by simpa using hu)⟩
                  have HRO2 : Hid (∀ V, Below X.heap.size X V → V.rangeAt w2.heap.size 0 [.int .u64 (s.qb : Int), .int .u64 (s.qn : Int), .int .i64 s.at_, .int .i64 s.fr, .int .i64 s.tq, .slice qo2 bs.length co2, .int .u64 (a : Int)]) := fun V hV j u hu => by rw [Nat.zero_add]; exact cell_of_row ((hV.block _ (by omega)).trans go2) (by simpa using hu)
                  have HSZ : Hid (w.heap.size < X.heap.size ∧ WS.heap.size < X.heap.size ∧ w.heap.size ≠ w2.heap.size ∧ WS.heap.size ≠ w2.heap.size) := ⟨by omega, by omega, by omega, by omega⟩
                  have CK : Hid (∀ V, Below X.heap.size X V → Calls Try.prog 13 #[.agg #[.int .u64 (s.qb : Int), .int .u64 (s.qn : Int), .int .i64 s.at_, .int .i64 s.fr, .int .i64 s.tq, .int .u64 (x'.n : Int), .slice qi2 x'.h.length ci2, .slice qr2 x'.r.length cr2, .bool x'.d]] V fun e w' => ∃ cl2 : List Value, e = .returned (.agg cl2.toArray) ∧ cl2[37]? = some (.int .u64 (x'.n : Int)) ∧ Below V.heap.size V w') := fun V hV => by
                    refine (ack_any _ x' Ki2 V (mIn _ _ _ _ _ _ (fun _ h => h) (kept_of (fun b hb => (hKi2 b hb).1) hV) hri2)).mono ?_
                    rintro e w' ⟨rfl, hb⟩
                    exact ⟨_, rfl, rfl, hb⟩
                  have hnl := HX1.out.n
                  have CA : Hid (∀ V, Below X.heap.size X V → Calls Try.prog 12 #[.agg #[.int .u64 (s.qb : Int), .int .u64 (s.qn : Int), .int .i64 s.at_, .int .i64 s.fr, .int .i64 s.tq, .slice qo2 bs.length co2, .int .u64 (a : Int)], .agg #[.int .u64 (s.qb : Int), .int .u64 (s.qn : Int), .int .i64 s.at_, .int .i64 s.fr, .int .i64 s.tq], .int .u64 (x'.n : Int)] V fun e w' => ∃ q6 c6, e = .returned (.agg #[.int .u64 (s.qb : Int), .int .u64 (s.qn : Int), .int .i64 s.at_, .int .i64 s.fr, .int .i64 s.tq, .slice q6 bs.length c6, .int .u64 (x'.n : Int)]) ∧ Hid (w'.there w2.heap.size 0 7) ∧ Hid (Below V.heap.size V w') ∧ ∃ Y, Hid (w'.setCells w2.heap.size 0 (#[.int .u64 (s.qb : Int), .int .u64 (s.qn : Int), .int .i64 s.at_, .int .i64 s.fr, .int .i64 s.tq, .slice q6 bs.length c6, .int .u64 (x'.n : Int)] : Array Value).toList = Y) ∧ Hid (OncI s bs w w2.heap.size WS.heap.size WT.heap.size x'.n x' (.slice (some ⟨g, o, none⟩) lx cu) xs Y) ∧ Hid (∀ b, b ≠ w2.heap.size → Y.heap[b]? = w'.heap[b]?)) := fun V hV => by
                    have hob := HIX.out.own.block
                    have CA0 := acked_any _ ⟨s, bs, a⟩ s x'.n Ko2 V (mOut _ _ _ _ _ _ (fun _ h => h) (kept_of (fun b hb => (hKo2 b hb).1) hV) hro2) HS.out (by omega) (fun b hb => Nat.lt_of_lt_of_le (hKo2 b hb).1 hV.size)
                    have hak : ackP ⟨s, bs, a⟩ s x'.n = ⟨s, bs, x'.n⟩ := by
                      unfold ackP; simp only []; rw [same_refl, decide_eq_true hnl]; rfl
                    rw [hak] at CA0
                    refine Calls.mono CA0 ?_
                    rintro e w6 ⟨cs6, rfl, hr6, hb6⟩
                    obtain ⟨q6, c6, rfl, _⟩ := out_cells hr6
                    have hsV := hV.size
                    obtain ⟨hth6, Y, hY, hIY⟩ := ((HIX.out.later hV).later hb6).putO (a' := x'.n) hr6 (fun b hb => ⟨hb.2, by have := hb.1; omega, by have := hb.1; omega, fun e => by have := (hob b e).2; have := hb.1; omega⟩)
                    refine ⟨q6, c6, rfl, hth6, hb6, Y, hY, hIY, fun b hb => ?_⟩
                    rw [← hY]
                    exact (setCells_any w2.heap.size _ 0 w6).2.2.2.2 b hb
                  obtain ⟨W7, hW7⟩ : ∃ W7, X.drew = W7 := ⟨_, rfl⟩
                  have hb7 : Below X.heap.size X W7 := by rw [← hW7]; exact (Below.refl _ _).drew
                  have HB7 := hid hb7
                  have HNN : Hid (x'.n ≤ N) := by show _ ≤ _; rw [← HN.out]; exact hnl
                  clear hb7 go2 hKo2 hro2 gi2 hKi2 hri2 hst2 hsz2 hnl
                  refine wp_region_held_drew (S := fun V => V.rangeAt w.heap.size 0 [.int .u64 (s.qb : Int), .int .u64 (s.qn : Int), .int .i64 s.at_, .int .i64 s.fr, .int .i64 s.tq] ∧ V.rangeAt WS.heap.size 0 [.int .u64 (s.qb : Int), .int .u64 (s.qn : Int), .int .i64 s.at_, .int .i64 s.fr, .int .i64 s.tq, .int .u64 (x'.n : Int), .slice qi2 x'.h.length ci2, .slice qr2 x'.r.length cr2, .bool x'.d]) (by kernel_rfl) (by rw [hW7]; exact HST.out W7 (HB7.out.block _ HSZ.out.1) (HB7.out.block _ HSZ.out.2.1)) (fun hHeld => ?_)
                  refine wpAnyH_take (i := 1) (v := .agg #[.int .u64 (s.qb : Int), .int .u64 (s.qn : Int), .int .i64 s.at_, .int .i64 s.fr, .int .i64 s.tq]) rfl (by kernel_rfl) (by kernel_rfl) (by kernel_rfl) (fun _ _ _ h => h) (yieldsIf_load_mid (by rfl) 26 (.tmp 4) rfl w.heap.size 0 rfl [.int .u64 (s.qb : Int), .int .u64 (s.qn : Int), .int .i64 s.at_, .int .i64 s.fr, .int .i64 s.tq] _ (fun W hW => hW.1) Try.underlying26 rfl sz_Strm) hHeld ?_
                  simp only [Act.put, List.getElem_toArray, List.getElem_cons_zero, List.getElem_cons_succ, List.setIfInBounds_toArray, List.set_cons_zero, List.set_cons_succ]
                  refine wpAnyH_take (i := 2) (v := (.agg #[.int .u64 (s.qb : Int), .int .u64 (s.qn : Int), .int .i64 s.at_, .int .i64 s.fr, .int .i64 s.tq, .int .u64 (x'.n : Int), .slice qi2 x'.h.length ci2, .slice qr2 x'.r.length cr2, .bool x'.d])) rfl (by kernel_rfl) (by kernel_rfl) (by kernel_rfl) (fun _ _ _ h => h) (yieldsIf_load_mid (by rfl) 39 (.tmp 11) rfl WS.heap.size 0 rfl [.int .u64 (s.qb : Int), .int .u64 (s.qn : Int), .int .i64 s.at_, .int .i64 s.fr, .int .i64 s.tq, .int .u64 (x'.n : Int), .slice qi2 x'.h.length ci2, .slice qr2 x'.r.length cr2, .bool x'.d] _ (fun W hW => hW.2) Try.underlying39 rfl sz_In) hHeld ?_
                  simp only [Act.put, List.getElem_toArray, List.getElem_cons_zero, List.getElem_cons_succ, List.setIfInBounds_toArray, List.set_cons_zero, List.set_cons_succ]
                  rw [hW7] at hHeld ⊢
                  clear hW7
                  refine wpAnyH_ready (rs := [0, 3]) (by kernel_rfl) (by simp) ?_
                  refine AllReadyH.cons rfl (fun K' hK => ?_) ?_
                  · rw [if_pos (by rfl)]
                    refine wp_load_mid 33 (.tmp 9) rfl w2.heap.size 0 rfl _ _ (HRO2.out W7 HB7.out) Try.underlying33 rfl sz_Out ?_
                    simp only [Act.put, List.getElem_toArray, List.getElem_cons_zero, List.getElem_cons_succ, List.setIfInBounds_toArray, List.set_cons_zero, List.set_cons_succ]
                    refine hK.out _ _ hHeld (fun hHeld => ?_)
                    clear hK K'
                    refine wpAnyH_ready (rs := [3]) (by kernel_rfl) (by simp) ?_
                    refine AllReadyH.cons rfl (fun K' hK => ?_) AllReadyH.nil
                    rw [if_pos (by rfl)]
                    go_simp
                    go_at_call 13
                    refine (CK.out W7 HB7.out).mono ?_
                    rintro e w10 ⟨cl2, rfl, hk2, hb10⟩
                    have hB10 : Below X.heap.size X w10 := HB7.out.trans (hb10.mono HB7.out.size)
                    have hfd : ∀ W, (Instr.field 65 (.agg cl2.toArray) 7).run Try.prog W = .ok (.int .u64 (x'.n : Int)) W := fun W => field37 cl2 _ hk2 W
                    refine hK.out _ _ (HST.out w10 (hB10.block _ HSZ.out.1) (hB10.block _ HSZ.out.2.1)) (fun hHeld => ?_)
                    clear hK K'
                    refine wpAnyH_take (i := 4) (v := .int .u64 (x'.n : Int)) rfl (by kernel_rfl) (by kernel_rfl) (by kernel_rfl) (fun _ _ _ h => h) (.inl ⟨by rfl, fun W hW => by go_simp⟩) hHeld ?_
                    simp only [Act.put, List.getElem_toArray, List.getElem_cons_zero, List.getElem_cons_succ, List.setIfInBounds_toArray, List.set_cons_zero, List.set_cons_succ]
                    refine wpAnyH_ready (rs := [5]) (by kernel_rfl) (by simp) ?_
                    refine AllReadyH.cons rfl (fun K' hK => ?_) AllReadyH.nil
                    rw [if_pos (by rfl)]
                    go_simp
                    go_at_call 12
                    refine (CA.out w10 hB10).mono ?_
                    rintro e w11 ⟨q6, c6, rfl, HT11, HB11, Y, HY, HIY, HKY⟩
                    have hB11 : Below X.heap.size X w11 := hB10.trans (HB11.out.mono hB10.size)
                    have HO11 : Hid ((#[.int .u64 (s.qb : Int), .int .u64 (s.qn : Int), .int .i64 s.at_, .int .i64 s.fr, .int .i64 s.tq, .slice q6 bs.length c6, .int .u64 (x'.n : Int)] : Array Value).all (·.oneCell') = true) := by show _ = _; simp [Value.oneCell']
                    refine hK.out _ _ (HST.out w11 (hB11.block _ HSZ.out.1) (hB11.block _ HSZ.out.2.1)) (fun hHeld => ?_)
                    clear hK K'
                    refine wpAnyH_ready (rs := [6]) (by kernel_rfl) (by simp) ?_
                    refine AllReadyH.cons rfl (fun K' hK => ?_) AllReadyH.nil
                    rw [if_pos (by rfl)]
                    refine wp_store_mid 33 (.tmp 9) (.tmp 117) rfl w2.heap.size 0 #[.int .u64 (s.qb : Int), .int .u64 (s.qn : Int), .int .i64 s.at_, .int .i64 s.fr, .int .i64 s.tq, .slice q6 bs.length c6, .int .u64 (x'.n : Int)] rfl rfl HT11.out sz_Out HO11.out ?_
                    rw [HY.out]
                    refine hK.out _ _ (HST.out Y ((HKY.out _ HSZ.out.2.2.1).trans (hB11.block _ HSZ.out.1)) ((HKY.out _ HSZ.out.2.2.2).trans (hB11.block _ HSZ.out.2.1))) (fun hHeld => ?_)
                    clear hK K'
                    refine wpAnyH_done (by kernel_rfl) ?_ _
                    have haN := HNN.out
                    clear hHeld CA CK HST HRO2 hB11 hB10 HY HT11 HKY hfd HSZ HB7 HO11 HB11
                    go_wp2_with fail
                    go_roundg g'
                    case measure => omega
                    case rel => exact ⟨k + 1, x'.n, x', xs, by go_num, by omega, by omega, haN, by rw [HLV.out]; omega, .inr (by rw [HLV.out]; omega), HZS, HX1, HIY⟩
                  · refine AllReadyH.cons rfl (fun K' hK => ?_) AllReadyH.nil
                    rw [if_pos (by rfl)]
                    go_simp
                    go_at_call 13
                    refine (CK.out W7 HB7.out).mono ?_
                    rintro e w10 ⟨cl2, rfl, hk2, hb10⟩
                    have hB10 : Below X.heap.size X w10 := HB7.out.trans (hb10.mono HB7.out.size)
                    have hfd : ∀ W, (Instr.field 65 (.agg cl2.toArray) 7).run Try.prog W = .ok (.int .u64 (x'.n : Int)) W := fun W => field37 cl2 _ hk2 W
                    refine hK.out _ _ (HST.out w10 (hB10.block _ HSZ.out.1) (hB10.block _ HSZ.out.2.1)) (fun hHeld => ?_)
                    clear hK K'
                    refine wpAnyH_take (i := 4) (v := .int .u64 (x'.n : Int)) rfl (by kernel_rfl) (by kernel_rfl) (by kernel_rfl) (fun _ _ _ h => h) (.inl ⟨by rfl, fun W hW => by go_simp⟩) hHeld ?_
                    simp only [Act.put, List.getElem_toArray, List.getElem_cons_zero, List.getElem_cons_succ, List.setIfInBounds_toArray, List.set_cons_zero, List.set_cons_succ]
                    refine wpAnyH_ready (rs := [0]) (by kernel_rfl) (by simp) ?_
                    refine AllReadyH.cons rfl (fun K' hK => ?_) AllReadyH.nil
                    rw [if_pos (by rfl)]
                    refine wp_load_mid 33 (.tmp 9) rfl w2.heap.size 0 rfl _ _ (HRO2.out w10 hB10) Try.underlying33 rfl sz_Out ?_
                    simp only [Act.put, List.getElem_toArray, List.getElem_cons_zero, List.getElem_cons_succ, List.setIfInBounds_toArray, List.set_cons_zero, List.set_cons_succ]
                    refine hK.out _ _ hHeld (fun hHeld => ?_)
                    clear hK K'
                    refine wpAnyH_ready (rs := [5]) (by kernel_rfl) (by simp) ?_
                    refine AllReadyH.cons rfl (fun K' hK => ?_) AllReadyH.nil
                    rw [if_pos (by rfl)]
                    go_simp
                    go_at_call 12
                    refine (CA.out w10 hB10).mono ?_
                    rintro e w11 ⟨q6, c6, rfl, HT11, HB11, Y, HY, HIY, HKY⟩
                    have hB11 : Below X.heap.size X w11 := hB10.trans (HB11.out.mono hB10.size)
                    have HO11 : Hid ((#[.int .u64 (s.qb : Int), .int .u64 (s.qn : Int), .int .i64 s.at_, .int .i64 s.fr, .int .i64 s.tq, .slice q6 bs.length c6, .int .u64 (x'.n : Int)] : Array Value).all (·.oneCell') = true) := by show _ = _; simp [Value.oneCell']
                    refine hK.out _ _ (HST.out w11 (hB11.block _ HSZ.out.1) (hB11.block _ HSZ.out.2.1)) (fun hHeld => ?_)
                    clear hK K'
                    refine wpAnyH_ready (rs := [6]) (by kernel_rfl) (by simp) ?_
                    refine AllReadyH.cons rfl (fun K' hK => ?_) AllReadyH.nil
                    rw [if_pos (by rfl)]
                    refine wp_store_mid 33 (.tmp 9) (.tmp 117) rfl w2.heap.size 0 #[.int .u64 (s.qb : Int), .int .u64 (s.qn : Int), .int .i64 s.at_, .int .i64 s.fr, .int .i64 s.tq, .slice q6 bs.length c6, .int .u64 (x'.n : Int)] rfl rfl HT11.out sz_Out HO11.out ?_
                    rw [HY.out]
                    refine hK.out _ _ (HST.out Y ((HKY.out _ HSZ.out.2.2.1).trans (hB11.block _ HSZ.out.1)) ((HKY.out _ HSZ.out.2.2.2).trans (hB11.block _ HSZ.out.2.1))) (fun hHeld => ?_)
                    clear hK K'
                    refine wpAnyH_done (by kernel_rfl) ?_ _
                    have haN := HNN.out
                    clear hHeld CA CK HST HRO2 hB11 hB10 HY HT11 HKY hfd HSZ HB7 HO11 HB11
                    go_wp2_with fail
                    go_roundg g'
                    case measure => omega
                    case rel => exact ⟨k + 1, x'.n, x', xs, by go_num, by omega, by omega, haN, by rw [HLV.out]; omega, .inr (by rw [HLV.out]; omega), HZS, HX1, HIY⟩
              · have zA : ¬ (k : Int) < (as_.length : Int) := by omega
                go_wp2_with (first | (refine wpList_load_mid rfl 39 _ rfl B17 0 rfl _ _ HRU9.out Try.underlying39 rfl sz_In ?_) | (refine wpList_store_mid rfl 39 _ _ rfl WS.heap.size 0 #[.int .u64 (s.qb : Int), .int .u64 (s.qn : Int), .int .i64 s.at_, .int .i64 s.fr, .int .i64 s.tq, .int .u64 (x'.n : Int), .slice q8 x'.h.length c8, .slice q9 x'.r.length c9, .bool x'.d] rfl rfl HTI.out sz_In HOI.out ?_; rw [HXI.out]))
                go_roundg g'
                case measure => omega
                case rel => exact ⟨k + 1, a, x', xs, by go_num, by omega, by omega, haN, by rw [HLV.out]; omega, .inr (by rw [HLV.out]; omega), HZS, HX1, HIX⟩
            · refine AllReadyH.cons rfl (fun K' hK => ?_) AllReadyH.nil
              rw [if_pos (by rfl)]
              obtain ⟨WA, hWA, hth, WU0, hWU0, hrs, hss, hbs, hrl⟩ := box_new W5 39 #[.int .u64 0, .int .u64 0, .int .i64 0, .int .i64 0, .int .i64 0, .int .u64 0, .slice none 0 0, .slice none 0 0, .bool false] [.int .u64 0, .int .u64 0, .int .i64 0, .int .i64 0, .int .i64 0, .int .u64 0, .slice none 0 0, .slice none 0 0, .bool false] rfl
              have hgA : WA.heap[W5.heap.size]? = some (.cells #[.int .u64 0, .int .u64 0, .int .i64 0, .int .i64 0, .int .i64 0, .int .u64 0, .slice none 0 0, .slice none 0 0, .bool false] 39 (0, 0)) := by rw [← hWA]; exact heap_alloc_new W5 _
              have hBA : Below w4.heap.size w4 WA := HB5.out.trans (by rw [← hWA]; exact ((Below.refl _ _).alloc (Nat.le_refl _) _).mono HB5.out.size)
              clear hth hWU0 hrs hss hbs hrl
              go_simp
              refine hK.out _ _ ⟨HRg.out WA (hBA.block _ HGs.out.1), HRi.out WA (hBA.block _ HGs.out.2)⟩ (fun hHeld => ?_)
              clear hK K'
              refine wpAnyH_ready (rs := [11]) (by kernel_rfl) (by simp) ?_
              refine AllReadyH.cons rfl (fun K' hK => ?_) AllReadyH.nil
              rw [if_pos (by rfl)]
              clear hWA
              go_simp
              go_at_call 10
              refine (CT.out WA hBA).mono ?_
              rintro e w8 ⟨q8, c8, q9, c9, rfl, hr8, hb8⟩
              have hB8 : Below w4.heap.size w4 w8 := hBA.trans (hb8.mono hBA.size)
              have hltA := (Array.getElem?_eq_some_iff.1 hgA).1
              have hg8 : w8.heap[W5.heap.size]? = some (.cells #[.int .u64 0, .int .u64 0, .int .i64 0, .int .i64 0, .int .i64 0, .int .u64 0, .slice none 0 0, .slice none 0 0, .bool false] 39 (0, 0)) := (hb8.block _ hltA).trans hgA
              obtain ⟨hth8, WU, hWU, _, hsU, hkU⟩ := put_row w8 W5.heap.size _ 39 hg8 [.int .u64 (s.qb : Int), .int .u64 (s.qn : Int), .int .i64 s.at_, .int .i64 s.fr, .int .i64 s.tq, .int .u64 (x'.n : Int), .slice q8 x'.h.length c8, .slice q9 x'.r.length c9, .bool x'.d] rfl Try.underlying39 rfl sz_In
              have hgU : WU.heap[W5.heap.size]? = some (.cells #[.int .u64 (s.qb : Int), .int .u64 (s.qn : Int), .int .i64 s.at_, .int .i64 s.fr, .int .i64 s.tq, .int .u64 (x'.n : Int), .slice q8 x'.h.length c8, .slice q9 x'.r.length c9, .bool x'.d] 39 (0, 0)) := by rw [← hWU]; exact box_full w8 W5.heap.size _ 39 hg8 [.int .u64 (s.qb : Int), .int .u64 (s.qn : Int), .int .i64 s.at_, .int .i64 s.fr, .int .i64 s.tq, .int .u64 (x'.n : Int), .slice q8 x'.h.length c8, .slice q9 x'.r.length c9, .bool x'.d] rfl
              have hBU : Below w4.heap.size w4 WU := ⟨hkU.os.trans hB8.os, hkU.tape.trans hB8.tape, hkU.output.trans hB8.output, by have := hB8.size; omega, fun b hb => (hkU.block b (by have := HB5.out.size; show b ≠ _; omega)).trans (hB8.block b hb)⟩
              have HTH : Hid (w8.there W5.heap.size 0 9) := hth8
              have HWU : Hid (w8.setCells W5.heap.size 0 (#[.int .u64 (s.qb : Int), .int .u64 (s.qn : Int), .int .i64 s.at_, .int .i64 s.fr, .int .i64 s.tq, .int .u64 (x'.n : Int), .slice q8 x'.h.length c8, .slice q9 x'.r.length c9, .bool x'.d] : Array Value).toList = WU) := hWU
              have HO8 : Hid ((#[.int .u64 (s.qb : Int), .int .u64 (s.qn : Int), .int .i64 s.at_, .int .i64 s.fr, .int .i64 s.tq, .int .u64 (x'.n : Int), .slice q8 x'.h.length c8, .slice q9 x'.r.length c9, .bool x'.d] : Array Value).all (·.oneCell') = true) := by show _ = _; simp [Value.oneCell']
              have HRU : Hid (WU.rangeAt W5.heap.size 0 [.int .u64 (s.qb : Int), .int .u64 (s.qn : Int), .int .i64 s.at_, .int .i64 s.fr, .int .i64 s.tq, .int .u64 (x'.n : Int), .slice q8 x'.h.length c8, .slice q9 x'.r.length c9, .bool x'.d]) := fun j u hu => by rw [Nat.zero_add]; exact cell_of_row hgU (by simpa using hu)
              have HIU : Hid (rIn (From w4.heap.size WU) WU [.int .u64 (s.qb : Int), .int .u64 (s.qn : Int), .int .i64 s.at_, .int .i64 s.fr, .int .i64 s.tq, .int .u64 (x'.n : Int), .slice q8 x'.h.length c8, .slice q9 x'.r.length c9, .bool x'.d] x') := mIn _ _ _ _ _ _ (fun b hb => ⟨Nat.le_trans hBA.size hb.1, by have := hb.2; omega⟩) (hkU.less fun b hb => by have := hb.1; show b ≠ _; omega) hr8
              have hW5lt : W5.heap.size < WU.heap.size := (Array.getElem?_eq_some_iff.1 hgU).1
              refine hK.out _ _ ⟨HRg.out w8 (hB8.block _ HGs.out.1), HRi.out w8 (hB8.block _ HGs.out.2)⟩ (fun hHeld => ?_)
              clear hK K' hg8 hth8 hWU hgA hltA
              refine wpAnyH_take (i := 12) (v := .tuple #[.agg #[.int .u64 (s.qb : Int), .int .u64 (s.qn : Int), .int .i64 s.at_, .int .i64 s.fr, .int .i64 s.tq, .int .u64 (x'.n : Int), .slice q8 x'.h.length c8, .slice q9 x'.r.length c9, .bool x'.d], .int .i64 E]) rfl (by kernel_rfl) (by kernel_rfl) (by kernel_rfl) (fun _ _ _ h => h) (.inl ⟨by rfl, fun W hW => by go_simp⟩) hHeld ?_
              simp only [Act.put, List.getElem_toArray, List.getElem_cons_zero, List.getElem_cons_succ, List.setIfInBounds_toArray, List.set_cons_zero, List.set_cons_succ]
              refine wpAnyH_take (i := 13) (v := .agg #[.int .u64 (s.qb : Int), .int .u64 (s.qn : Int), .int .i64 s.at_, .int .i64 s.fr, .int .i64 s.tq, .int .u64 (x'.n : Int), .slice q8 x'.h.length c8, .slice q9 x'.r.length c9, .bool x'.d]) rfl (by kernel_rfl) (by kernel_rfl) (by kernel_rfl) (fun _ _ _ h => h) (.inl ⟨by rfl, fun W hW => by go_simp⟩) hHeld ?_
              simp only [Act.put, List.getElem_toArray, List.getElem_cons_zero, List.getElem_cons_succ, List.setIfInBounds_toArray, List.set_cons_zero, List.set_cons_succ]
              refine wpAnyH_take (i := 14) (v := .int .i64 E) rfl (by kernel_rfl) (by kernel_rfl) (by kernel_rfl) (fun _ _ _ h => h) (.inl ⟨by rfl, fun W hW => by go_simp⟩) hHeld ?_
              simp only [Act.put, List.getElem_toArray, List.getElem_cons_zero, List.getElem_cons_succ, List.setIfInBounds_toArray, List.set_cons_zero, List.set_cons_succ]
              refine wpAnyH_ready (rs := [16]) (by kernel_rfl) (by simp) ?_
              refine AllReadyH.cons rfl (fun K' hK => ?_) AllReadyH.nil
              rw [if_pos (by rfl)]
              refine wp_store_mid 39 (.tmp 17) (.tmp 83) rfl W5.heap.size 0 #[.int .u64 (s.qb : Int), .int .u64 (s.qn : Int), .int .i64 s.at_, .int .i64 s.fr, .int .i64 s.tq, .int .u64 (x'.n : Int), .slice q8 x'.h.length c8, .slice q9 x'.r.length c9, .bool x'.d] rfl rfl HTH.out sz_In HO8.out ?_
              rw [HWU.out]
              refine hK.out _ _ ⟨HRg.out WU (hBU.block _ HGs.out.1), HRi.out WU (hBU.block _ HGs.out.2)⟩ (fun hHeld => ?_)
              clear hK K'
              refine wpAnyH_ready (rs := [17]) (by kernel_rfl) (by simp) ?_
              refine AllReadyH.cons rfl (fun K' hK => ?_) AllReadyH.nil
              rw [if_pos (by rfl)]
              go_simp
              refine hK.out _ _ ⟨HRg.out WU (hBU.block _ HGs.out.1), HRi.out WU (hBU.block _ HGs.out.2)⟩ (fun hHeld => ?_)
              clear hK K'
              refine wpAnyH_done (by kernel_rfl) ?_ _
              obtain ⟨B17, hB17⟩ : ∃ B, W5.heap.size = B := ⟨_, rfl⟩
              rw [hB17] at HRU
              rw [hB17]
              have HBU : Hid (Below w4.heap.size w4 WU) := hBU
              have HBL : Hid (B17 < WU.heap.size) := by show _ < _; rw [← hB17]; exact hW5lt
              clear hHeld hB8 hBU hBA HTH HWU HO8 hr8 hb8 hsU hkU hgU hB17 hW5lt
              have hb9 : bs.length ≤ 512 := by rw [HN.out]; omega
              have hb0 : 0 < bs.length := by rw [HN.out]; omega
              have CI0 := checkIn_any [.int .u64 (s.qb : Int), .int .u64 (s.qn : Int), .int .i64 s.at_, .int .i64 s.fr, .int .i64 s.tq, .int .u64 (x'.n : Int), .slice q8 x'.h.length c8, .slice q9 x'.r.length c9, .bool x'.d] x' (From w4.heap.size WU) WU HIU.out From.lt
              rw [HX1.out.ok HB8.out hb9 hb0] at CI0
              have CI := hid CI0
              have hfew := HX1.out.few HB8.out
              have zn : ¬ (x'.n : Int) < (x.n : Int) := by omega
              have zh : ¬ (4 : Int) ≤ (x'.h.length : Int) := by omega
              clear CI0 CT HRg HRi SZM HB5 zp zv zv2 zJu zJt zJn zJ zJ0 zJl hJ
              go_wp2_with (refine wpList_load_mid rfl 39 _ rfl B17 0 rfl _ _ HRU.out Try.underlying39 rfl sz_In ?_)
              refine CI.out.mono ?_
              rintro e w9 ⟨rfl, hbw⟩
              have hI9 := (HIr.out.later HBU.out).later hbw
              have hsB := HBU.out.size
              have hsW := hbw.size
              have hsI := HIr.out.sz
              have hob := HIr.out.own.block
              have c5 : w9.cell? ⟨B17, 5, none⟩ = some (.int .u64 (x'.n : Int)) := (hbw.cell (p := ⟨B17, 5, none⟩) HBL.out).trans (by have := HRU.out 5 _ rfl; rwa [Nat.zero_add] at this)
              have c6 : w9.cell? ⟨B17, 6, none⟩ = some (.slice q8 x'.h.length c8) := (hbw.cell (p := ⟨B17, 6, none⟩) HBL.out).trans (by have := HRU.out 6 _ rfl; rwa [Nat.zero_add] at this)
              obtain ⟨_, _, _, _, _, gi9, _⟩ := hI9.i
              have t5 : w9.cell? ⟨WS.heap.size, 5, none⟩ = some (.int .u64 (x.n : Int)) := cell_of_row (k := 5) gi9 rfl
              have HRU9 : Hid (w9.rangeAt B17 0 [.int .u64 (s.qb : Int), .int .u64 (s.qn : Int), .int .i64 s.at_, .int .i64 s.fr, .int .i64 s.tq, .int .u64 (x'.n : Int), .slice q8 x'.h.length c8, .slice q9 x'.r.length c9, .bool x'.d]) := fun j u hu => (hbw.cell (p := ⟨B17, 0 + j, none⟩) HBL.out).trans (HRU.out j u hu)
              obtain ⟨hthI, X, hX, hIX⟩ := hI9.putI (x' := x') (mIn _ _ _ _ _ _ (fun _ h => h) (kept_of From.lt hbw) HIU.out) (fun b hb => ⟨by have := hb.2; omega, by have := hb.1; omega, by have := hb.1; omega, fun e => by have := (hob b e).2; have := hb.1; omega⟩)
              have HIX : Hid (OncI s bs w w2.heap.size WS.heap.size WT.heap.size a x' (.slice (some ⟨g, o, none⟩) lx cu) xs X) := hIX
              have HTI : Hid (w9.there WS.heap.size 0 9) := hthI
              have HXI : Hid (w9.setCells WS.heap.size 0 (#[.int .u64 (s.qb : Int), .int .u64 (s.qn : Int), .int .i64 s.at_, .int .i64 s.fr, .int .i64 s.tq, .int .u64 (x'.n : Int), .slice q8 x'.h.length c8, .slice q9 x'.r.length c9, .bool x'.d] : Array Value).toList = X) := hX
              have HOI : Hid ((#[.int .u64 (s.qb : Int), .int .u64 (s.qn : Int), .int .i64 s.at_, .int .i64 s.fr, .int .i64 s.tq, .int .u64 (x'.n : Int), .slice q8 x'.h.length c8, .slice q9 x'.r.length c9, .bool x'.d] : Array Value).all (·.oneCell') = true) := by show _ = _; simp [Value.oneCell']
              clear hI9 hsB hsW hsI hob gi9 hthI hX hIX hbw CI HIr HIU HRU HBU HBL
              by_cases hkA : k < as_.length
              · have zA : (k : Int) < (as_.length : Int) := by omega
                obtain ⟨_, _, e1, _, hac⟩ := (HP.out X HIX.out.bel).2
                cases e1
                obtain ⟨ab, ao, rfl, _, haj⟩ := hac (by omega)
                obtain ⟨cs, _, har, rfl⟩ := haj k hkA
                have fa := har 0 _ rfl
                obtain ⟨av, hav⟩ : ∃ av, as_[k] = av := ⟨_, rfl⟩
                rw [hav] at fa
                rw [Nat.mul_one, Nat.add_zero] at fa
                clear hac haj har hav
                cases av
                · go_wp2_with (first | (refine wpList_load_mid rfl 39 _ rfl B17 0 rfl _ _ HRU9.out Try.underlying39 rfl sz_In ?_) | (refine wpList_store_mid rfl 39 _ _ rfl WS.heap.size 0 #[.int .u64 (s.qb : Int), .int .u64 (s.qn : Int), .int .i64 s.at_, .int .i64 s.fr, .int .i64 s.tq, .int .u64 (x'.n : Int), .slice q8 x'.h.length c8, .slice q9 x'.r.length c9, .bool x'.d] rfl rfl HTI.out sz_In HOI.out ?_; rw [HXI.out]))
                  go_roundg g'
                  case measure => omega
                  case rel => exact ⟨k + 1, a, x', xs, by go_num, by omega, by omega, haN, by rw [HLV.out]; omega, .inr (by rw [HLV.out]; omega), HZS, HX1, HIX⟩
                · go_wp2_with (first | (refine wpList_load_mid rfl 39 _ rfl B17 0 rfl _ _ HRU9.out Try.underlying39 rfl sz_In ?_) | (refine wpList_store_mid rfl 39 _ _ rfl WS.heap.size 0 #[.int .u64 (s.qb : Int), .int .u64 (s.qn : Int), .int .i64 s.at_, .int .i64 s.fr, .int .i64 s.tq, .int .u64 (x'.n : Int), .slice q8 x'.h.length c8, .slice q9 x'.r.length c9, .bool x'.d] rfl rfl HTI.out sz_In HOI.out ?_; rw [HXI.out]))
                  obtain ⟨qo2, co2, Ko2, go2, hKo2, hro2⟩ := HIX.out.o
                  obtain ⟨qi2, ci2, qr2, cr2, Ki2, gi2, hKi2, hri2⟩ := HIX.out.i
                  have hst2 := HIX.out.st
                  have hsz2 := HIX.out.sz
                  have HST : Hid (∀ V : World, V.heap[w.heap.size]? = X.heap[w.heap.size]? → V.heap[WS.heap.size]? = X.heap[WS.heap.size]? → V.rangeAt w.heap.size 0 [.int .u64 (s.qb : Int), .int .u64 (s.qn : Int), .int .i64 s.at_, .int .i64 s.fr, .int .i64 s.tq] ∧ V.rangeAt WS.heap.size 0 [.int .u64 (s.qb : Int), .int .u64 (s.qn : Int), .int .i64 s.at_, .int .i64 s.fr, .int .i64 s.tq, .int .u64 (x'.n : Int), .slice qi2 x'.h.length ci2, .slice qr2 x'.r.length cr2, .bool x'.d]) := fun V h1 h2 => ⟨fun j u hu => by rw [Nat.zero_add]; exact cell_of_row (h1.trans hst2) (by simpa using hu), fun j u hu => by rw [Nat.zero_add]; exact cell_of_row (h2.trans gi2) (by simpa using hu)⟩
                  have HRO2 : Hid (∀ V, Below X.heap.size X V → V.rangeAt w2.heap.size 0 [.int .u64 (s.qb : Int), .int .u64 (s.qn : Int), .int .i64 s.at_, .int .i64 s.fr, .int .i64 s.tq, .slice qo2 bs.length co2, .int .u64 (a : Int)]) := fun V hV j u hu => by rw [Nat.zero_add]; exact cell_of_row ((hV.block _ (by omega)).trans go2) (by simpa using hu)
                  have HSZ : Hid (w.heap.size < X.heap.size ∧ WS.heap.size < X.heap.size ∧ w.heap.size ≠ w2.heap.size ∧ WS.heap.size ≠ w2.heap.size) := ⟨by omega, by omega, by omega, by omega⟩
                  have CK : Hid (∀ V, Below X.heap.size X V → Calls Try.prog 13 #[.agg #[.int .u64 (s.qb : Int), .int .u64 (s.qn : Int), .int .i64 s.at_, .int .i64 s.fr, .int .i64 s.tq, .int .u64 (x'.n : Int), .slice qi2 x'.h.length ci2, .slice qr2 x'.r.length cr2, .bool x'.d]] V fun e w' => ∃ cl2 : List Value, e = .returned (.agg cl2.toArray) ∧ cl2[37]? = some (.int .u64 (x'.n : Int)) ∧ Below V.heap.size V w') := fun V hV => by
                    refine (ack_any _ x' Ki2 V (mIn _ _ _ _ _ _ (fun _ h => h) (kept_of (fun b hb => (hKi2 b hb).1) hV) hri2)).mono ?_
                    rintro e w' ⟨rfl, hb⟩
                    exact ⟨_, rfl, rfl, hb⟩
                  have hnl := HX1.out.n
                  have CA : Hid (∀ V, Below X.heap.size X V → Calls Try.prog 12 #[.agg #[.int .u64 (s.qb : Int), .int .u64 (s.qn : Int), .int .i64 s.at_, .int .i64 s.fr, .int .i64 s.tq, .slice qo2 bs.length co2, .int .u64 (a : Int)], .agg #[.int .u64 (s.qb : Int), .int .u64 (s.qn : Int), .int .i64 s.at_, .int .i64 s.fr, .int .i64 s.tq], .int .u64 (x'.n : Int)] V fun e w' => ∃ q6 c6, e = .returned (.agg #[.int .u64 (s.qb : Int), .int .u64 (s.qn : Int), .int .i64 s.at_, .int .i64 s.fr, .int .i64 s.tq, .slice q6 bs.length c6, .int .u64 (x'.n : Int)]) ∧ Hid (w'.there w2.heap.size 0 7) ∧ Hid (Below V.heap.size V w') ∧ ∃ Y, Hid (w'.setCells w2.heap.size 0 (#[.int .u64 (s.qb : Int), .int .u64 (s.qn : Int), .int .i64 s.at_, .int .i64 s.fr, .int .i64 s.tq, .slice q6 bs.length c6, .int .u64 (x'.n : Int)] : Array Value).toList = Y) ∧ Hid (OncI s bs w w2.heap.size WS.heap.size WT.heap.size x'.n x' (.slice (some ⟨g, o, none⟩) lx cu) xs Y) ∧ Hid (∀ b, b ≠ w2.heap.size → Y.heap[b]? = w'.heap[b]?)) := fun V hV => by
                    have hob := HIX.out.own.block
                    have CA0 := acked_any _ ⟨s, bs, a⟩ s x'.n Ko2 V (mOut _ _ _ _ _ _ (fun _ h => h) (kept_of (fun b hb => (hKo2 b hb).1) hV) hro2) HS.out (by omega) (fun b hb => Nat.lt_of_lt_of_le (hKo2 b hb).1 hV.size)
                    have hak : ackP ⟨s, bs, a⟩ s x'.n = ⟨s, bs, x'.n⟩ := by
                      unfold ackP; simp only []; rw [same_refl, decide_eq_true hnl]; rfl
                    rw [hak] at CA0
                    refine Calls.mono CA0 ?_
                    rintro e w6 ⟨cs6, rfl, hr6, hb6⟩
                    obtain ⟨q6, c6, rfl, _⟩ := out_cells hr6
                    have hsV := hV.size
                    obtain ⟨hth6, Y, hY, hIY⟩ := ((HIX.out.later hV).later hb6).putO (a' := x'.n) hr6 (fun b hb => ⟨hb.2, by have := hb.1; omega, by have := hb.1; omega, fun e => by have := (hob b e).2; have := hb.1; omega⟩)
                    refine ⟨q6, c6, rfl, hth6, hb6, Y, hY, hIY, fun b hb => ?_⟩
                    rw [← hY]
                    exact (setCells_any w2.heap.size _ 0 w6).2.2.2.2 b hb
                  obtain ⟨W7, hW7⟩ : ∃ W7, X.drew = W7 := ⟨_, rfl⟩
                  have hb7 : Below X.heap.size X W7 := by rw [← hW7]; exact (Below.refl _ _).drew
                  have HB7 := hid hb7
                  have HNN : Hid (x'.n ≤ N) := by show _ ≤ _; rw [← HN.out]; exact hnl
                  clear hb7 go2 hKo2 hro2 gi2 hKi2 hri2 hst2 hsz2 hnl
                  refine wp_region_held_drew (S := fun V => V.rangeAt w.heap.size 0 [.int .u64 (s.qb : Int), .int .u64 (s.qn : Int), .int .i64 s.at_, .int .i64 s.fr, .int .i64 s.tq] ∧ V.rangeAt WS.heap.size 0 [.int .u64 (s.qb : Int), .int .u64 (s.qn : Int), .int .i64 s.at_, .int .i64 s.fr, .int .i64 s.tq, .int .u64 (x'.n : Int), .slice qi2 x'.h.length ci2, .slice qr2 x'.r.length cr2, .bool x'.d]) (by kernel_rfl) (by rw [hW7]; exact HST.out W7 (HB7.out.block _ HSZ.out.1) (HB7.out.block _ HSZ.out.2.1)) (fun hHeld => ?_)
                  refine wpAnyH_take (i := 1) (v := .agg #[.int .u64 (s.qb : Int), .int .u64 (s.qn : Int), .int .i64 s.at_, .int .i64 s.fr, .int .i64 s.tq]) rfl (by kernel_rfl) (by kernel_rfl) (by kernel_rfl) (fun _ _ _ h => h) (yieldsIf_load_mid (by rfl) 26 (.tmp 4) rfl w.heap.size 0 rfl [.int .u64 (s.qb : Int), .int .u64 (s.qn : Int), .int .i64 s.at_, .int .i64 s.fr, .int .i64 s.tq] _ (fun W hW => hW.1) Try.underlying26 rfl sz_Strm) hHeld ?_
                  simp only [Act.put, List.getElem_toArray, List.getElem_cons_zero, List.getElem_cons_succ, List.setIfInBounds_toArray, List.set_cons_zero, List.set_cons_succ]
                  refine wpAnyH_take (i := 2) (v := (.agg #[.int .u64 (s.qb : Int), .int .u64 (s.qn : Int), .int .i64 s.at_, .int .i64 s.fr, .int .i64 s.tq, .int .u64 (x'.n : Int), .slice qi2 x'.h.length ci2, .slice qr2 x'.r.length cr2, .bool x'.d])) rfl (by kernel_rfl) (by kernel_rfl) (by kernel_rfl) (fun _ _ _ h => h) (yieldsIf_load_mid (by rfl) 39 (.tmp 11) rfl WS.heap.size 0 rfl [.int .u64 (s.qb : Int), .int .u64 (s.qn : Int), .int .i64 s.at_, .int .i64 s.fr, .int .i64 s.tq, .int .u64 (x'.n : Int), .slice qi2 x'.h.length ci2, .slice qr2 x'.r.length cr2, .bool x'.d] _ (fun W hW => hW.2) Try.underlying39 rfl sz_In) hHeld ?_
                  simp only [Act.put, List.getElem_toArray, List.getElem_cons_zero, List.getElem_cons_succ, List.setIfInBounds_toArray, List.set_cons_zero, List.set_cons_succ]
                  rw [hW7] at hHeld ⊢
                  clear hW7
                  refine wpAnyH_ready (rs := [0, 3]) (by kernel_rfl) (by simp) ?_
                  refine AllReadyH.cons rfl (fun K' hK => ?_) ?_
                  · rw [if_pos (by rfl)]
                    refine wp_load_mid 33 (.tmp 9) rfl w2.heap.size 0 rfl _ _ (HRO2.out W7 HB7.out) Try.underlying33 rfl sz_Out ?_
                    simp only [Act.put, List.getElem_toArray, List.getElem_cons_zero, List.getElem_cons_succ, List.setIfInBounds_toArray, List.set_cons_zero, List.set_cons_succ]
                    refine hK.out _ _ hHeld (fun hHeld => ?_)
                    clear hK K'
                    refine wpAnyH_ready (rs := [3]) (by kernel_rfl) (by simp) ?_
                    refine AllReadyH.cons rfl (fun K' hK => ?_) AllReadyH.nil
                    rw [if_pos (by rfl)]
                    go_simp
                    go_at_call 13
                    refine (CK.out W7 HB7.out).mono ?_
                    rintro e w10 ⟨cl2, rfl, hk2, hb10⟩
                    have hB10 : Below X.heap.size X w10 := HB7.out.trans (hb10.mono HB7.out.size)
                    have hfd : ∀ W, (Instr.field 65 (.agg cl2.toArray) 7).run Try.prog W = .ok (.int .u64 (x'.n : Int)) W := fun W => field37 cl2 _ hk2 W
                    refine hK.out _ _ (HST.out w10 (hB10.block _ HSZ.out.1) (hB10.block _ HSZ.out.2.1)) (fun hHeld => ?_)
                    clear hK K'
                    refine wpAnyH_take (i := 4) (v := .int .u64 (x'.n : Int)) rfl (by kernel_rfl) (by kernel_rfl) (by kernel_rfl) (fun _ _ _ h => h) (.inl ⟨by rfl, fun W hW => by go_simp⟩) hHeld ?_
                    simp only [Act.put, List.getElem_toArray, List.getElem_cons_zero, List.getElem_cons_succ, List.setIfInBounds_toArray, List.set_cons_zero, List.set_cons_succ]
                    refine wpAnyH_ready (rs := [5]) (by kernel_rfl) (by simp) ?_
                    refine AllReadyH.cons rfl (fun K' hK => ?_) AllReadyH.nil
                    rw [if_pos (by rfl)]
                    go_simp
                    go_at_call 12
                    refine (CA.out w10 hB10).mono ?_
                    rintro e w11 ⟨q6, c6, rfl, HT11, HB11, Y, HY, HIY, HKY⟩
                    have hB11 : Below X.heap.size X w11 := hB10.trans (HB11.out.mono hB10.size)
                    have HO11 : Hid ((#[.int .u64 (s.qb : Int), .int .u64 (s.qn : Int), .int .i64 s.at_, .int .i64 s.fr, .int .i64 s.tq, .slice q6 bs.length c6, .int .u64 (x'.n : Int)] : Array Value).all (·.oneCell') = true) := by show _ = _; simp [Value.oneCell']
                    refine hK.out _ _ (HST.out w11 (hB11.block _ HSZ.out.1) (hB11.block _ HSZ.out.2.1)) (fun hHeld => ?_)
                    clear hK K'
                    refine wpAnyH_ready (rs := [6]) (by kernel_rfl) (by simp) ?_
                    refine AllReadyH.cons rfl (fun K' hK => ?_) AllReadyH.nil
                    rw [if_pos (by rfl)]
                    refine wp_store_mid 33 (.tmp 9) (.tmp 117) rfl w2.heap.size 0 #[.int .u64 (s.qb : Int), .int .u64 (s.qn : Int), .int .i64 s.at_, .int .i64 s.fr, .int .i64 s.tq, .slice q6 bs.length c6, .int .u64 (x'.n : Int)] rfl rfl HT11.out sz_Out HO11.out ?_
                    rw [HY.out]
                    refine hK.out _ _ (HST.out Y ((HKY.out _ HSZ.out.2.2.1).trans (hB11.block _ HSZ.out.1)) ((HKY.out _ HSZ.out.2.2.2).trans (hB11.block _ HSZ.out.2.1))) (fun hHeld => ?_)
                    clear hK K'
                    refine wpAnyH_done (by kernel_rfl) ?_ _
                    have haN := HNN.out
                    clear hHeld CA CK HST HRO2 hB11 hB10 HY HT11 HKY hfd HSZ HB7 HO11 HB11
                    go_wp2_with fail
                    go_roundg g'
                    case measure => omega
                    case rel => exact ⟨k + 1, x'.n, x', xs, by go_num, by omega, by omega, haN, by rw [HLV.out]; omega, .inr (by rw [HLV.out]; omega), HZS, HX1, HIY⟩
                  · refine AllReadyH.cons rfl (fun K' hK => ?_) AllReadyH.nil
                    rw [if_pos (by rfl)]
                    go_simp
                    go_at_call 13
                    refine (CK.out W7 HB7.out).mono ?_
                    rintro e w10 ⟨cl2, rfl, hk2, hb10⟩
                    have hB10 : Below X.heap.size X w10 := HB7.out.trans (hb10.mono HB7.out.size)
                    have hfd : ∀ W, (Instr.field 65 (.agg cl2.toArray) 7).run Try.prog W = .ok (.int .u64 (x'.n : Int)) W := fun W => field37 cl2 _ hk2 W
                    refine hK.out _ _ (HST.out w10 (hB10.block _ HSZ.out.1) (hB10.block _ HSZ.out.2.1)) (fun hHeld => ?_)
                    clear hK K'
                    refine wpAnyH_take (i := 4) (v := .int .u64 (x'.n : Int)) rfl (by kernel_rfl) (by kernel_rfl) (by kernel_rfl) (fun _ _ _ h => h) (.inl ⟨by rfl, fun W hW => by go_simp⟩) hHeld ?_
                    simp only [Act.put, List.getElem_toArray, List.getElem_cons_zero, List.getElem_cons_succ, List.setIfInBounds_toArray, List.set_cons_zero, List.set_cons_succ]
                    refine wpAnyH_ready (rs := [0]) (by kernel_rfl) (by simp) ?_
                    refine AllReadyH.cons rfl (fun K' hK => ?_) AllReadyH.nil
                    rw [if_pos (by rfl)]
                    refine wp_load_mid 33 (.tmp 9) rfl w2.heap.size 0 rfl _ _ (HRO2.out w10 hB10) Try.underlying33 rfl sz_Out ?_
                    simp only [Act.put, List.getElem_toArray, List.getElem_cons_zero, List.getElem_cons_succ, List.setIfInBounds_toArray, List.set_cons_zero, List.set_cons_succ]
                    refine hK.out _ _ hHeld (fun hHeld => ?_)
                    clear hK K'
                    refine wpAnyH_ready (rs := [5]) (by kernel_rfl) (by simp) ?_
                    refine AllReadyH.cons rfl (fun K' hK => ?_) AllReadyH.nil
                    rw [if_pos (by rfl)]
                    go_simp
                    go_at_call 12
                    refine (CA.out w10 hB10).mono ?_
                    rintro e w11 ⟨q6, c6, rfl, HT11, HB11, Y, HY, HIY, HKY⟩
                    have hB11 : Below X.heap.size X w11 := hB10.trans (HB11.out.mono hB10.size)
                    have HO11 : Hid ((#[.int .u64 (s.qb : Int), .int .u64 (s.qn : Int), .int .i64 s.at_, .int .i64 s.fr, .int .i64 s.tq, .slice q6 bs.length c6, .int .u64 (x'.n : Int)] : Array Value).all (·.oneCell') = true) := by show _ = _; simp [Value.oneCell']
                    refine hK.out _ _ (HST.out w11 (hB11.block _ HSZ.out.1) (hB11.block _ HSZ.out.2.1)) (fun hHeld => ?_)
                    clear hK K'
                    refine wpAnyH_ready (rs := [6]) (by kernel_rfl) (by simp) ?_
                    refine AllReadyH.cons rfl (fun K' hK => ?_) AllReadyH.nil
                    rw [if_pos (by rfl)]
                    refine wp_store_mid 33 (.tmp 9) (.tmp 117) rfl w2.heap.size 0 #[.int .u64 (s.qb : Int), .int .u64 (s.qn : Int), .int .i64 s.at_, .int .i64 s.fr, .int .i64 s.tq, .slice q6 bs.length c6, .int .u64 (x'.n : Int)] rfl rfl HT11.out sz_Out HO11.out ?_
                    rw [HY.out]
                    refine hK.out _ _ (HST.out Y ((HKY.out _ HSZ.out.2.2.1).trans (hB11.block _ HSZ.out.1)) ((HKY.out _ HSZ.out.2.2.2).trans (hB11.block _ HSZ.out.2.1))) (fun hHeld => ?_)
                    clear hK K'
                    refine wpAnyH_done (by kernel_rfl) ?_ _
                    have haN := HNN.out
                    clear hHeld CA CK HST HRO2 hB11 hB10 HY HT11 HKY hfd HSZ HB7 HO11 HB11
                    go_wp2_with fail
                    go_roundg g'
                    case measure => omega
                    case rel => exact ⟨k + 1, x'.n, x', xs, by go_num, by omega, by omega, haN, by rw [HLV.out]; omega, .inr (by rw [HLV.out]; omega), HZS, HX1, HIY⟩
              · have zA : ¬ (k : Int) < (as_.length : Int) := by omega
                go_wp2_with (first | (refine wpList_load_mid rfl 39 _ rfl B17 0 rfl _ _ HRU9.out Try.underlying39 rfl sz_In ?_) | (refine wpList_store_mid rfl 39 _ _ rfl WS.heap.size 0 #[.int .u64 (s.qb : Int), .int .u64 (s.qn : Int), .int .i64 s.at_, .int .i64 s.fr, .int .i64 s.tq, .int .u64 (x'.n : Int), .slice q8 x'.h.length c8, .slice q9 x'.r.length c9, .bool x'.d] rfl rfl HTI.out sz_In HOI.out ?_; rw [HXI.out]))
                go_roundg g'
                case measure => omega
                case rel => exact ⟨k + 1, a, x', xs, by go_num, by omega, by omega, haN, by rw [HLV.out]; omega, .inr (by rw [HLV.out]; omega), HZS, HX1, HIX⟩
      · have z1 : ¬ (k : Int) < (P : Int) := by omega
        obtain ⟨qi, ci, qr, cr, Ki, gi, hKi, hri⟩ := HI.out.i
        have hpre := HX.out.pre
        rw [HFL.out] at hpre
        have hrl : x.r.length ≤ rows.length := by have := congrArg List.length hpre; rw [List.length_take] at this; omega
        have hlr : ListIs rRow 1 24 Ki V0 (.slice qr x.r.length cr) x.r := by
          obtain ⟨v', u', e', _, _, h4⟩ := hri
          have e9 : u' = .slice qr x.r.length cr := by
            have := congrArg (fun l => l[7]?) e'
            simp only [List.getElem?_cons_succ, List.getElem?_cons_zero, Option.some.injEq] at this
            exact this.symm
          rw [← e9]; exact h4
        obtain ⟨lo1, lo2⟩ := HL0.out V0 HI.out.bel
        have lo3 : ListIs rRow 1 24 K V0 (.slice q x.r.length c) x.r := by
          have := row_take lo1 x.r.length hrl
          rwa [← hpre] at this
        have hcap : rows.length ≤ c := by
          obtain ⟨_, _, e, hb, _⟩ := lo1
          cases e
          omega
        have hall : x.d = true → x.r.length = rows.length := fun hd => by
          have h1 := HX.out.d
          rw [hd] at h1
          have h2 : x.n = bs.length := of_decide_eq_true h1.symm
          rw [HX.out.r, h2, List.take_length, HFL.out]
        have hrow7 := cell_of_row (k := 7) (v := .slice qr x.r.length cr) gi rfl
        have hrow8 := cell_of_row (k := 8) (v := .bool x.d) gi rfl
        have cS0 : ∀ p : LaterS V0.heap.size V0, Calls Try.prog 14 #[.slice qr x.r.length cr, .slice q x.r.length c] p.w fun e w' => e = .returned (.bool true) ∧ Below p.w.heap.size p.w w' := fun p =>
          rows_eq _ _ x.r Ki K p.w (ListIs.later mRow hlr (fun b hb => (hKi b hb).1) p.h) (ListIs.later mRow lo3 lo2 p.h) (fun b hb => Nat.lt_of_lt_of_le (hKi b hb).1 p.h.size) (fun b hb => Nat.lt_of_lt_of_le (lo2 b hb) p.h.size)
        clear hlr lo3 hpre lo1 lo2 gi hri hKi
        obtain ⟨R, hR⟩ : ∃ R, x.r.length = R := ⟨_, rfl⟩
        obtain ⟨D, hD⟩ : ∃ D, x.d = D := ⟨_, rfl⟩
        rw [hR] at hrl hall hrow7 cS0
        rw [hD] at hall hrow8
        have hsz := HI.out.sz
        have hlt : WS.heap.size < V0.heap.size := by omega
        have cS := hid cS0
        have c7 : ∀ p : LaterS V0.heap.size V0, p.w.cell? ⟨WS.heap.size, 7, none⟩ = some (.slice qr R cr) := fun p => (p.h.cell (p := ⟨WS.heap.size, 7, none⟩) hlt).trans hrow7
        have H8 : Hid (∀ V, Below V0.heap.size V0 V → V.cell? ⟨WS.heap.size, 7, none⟩ = some (.slice qr R cr) ∧ V.cell? ⟨WS.heap.size, 8, none⟩ = some (.bool D)) := fun V hV => ⟨(hV.cell (p := ⟨WS.heap.size, 7, none⟩) hlt).trans hrow7, (hV.cell (p := ⟨WS.heap.size, 8, none⟩) hlt).trans hrow8⟩
        have HALL : Hid (D = true → R = rows.length) := hall
        have HBV : Hid (Below w.heap.size w V0) := HI.out.bel
        have zR : ¬ (rows.length : Int) < (R : Int) := by omega
        have zR0 : (0 : Int) ≤ (R : Int) := by omega
        have zRc : (R : Int) ≤ (c : Int) := by omega
        have zRn : R ≤ c := by omega
        have zRN : ¬ rows.length < R := by omega
        have zRd : decide ((rows.length : Int) < (R : Int)) = false := decide_eq_false zR
        have zRd2 : decide (rows.length < R) = false := decide_eq_false zRN
        have zRd3 : decide ((R : Int) > (rows.length : Int)) = false := decide_eq_false zR
        clear cS0 hrow7 hrow8 hR hD hsz hlt hall hrl hcap HI HX HXS
        go_wp2_with fail
        have inhL := laterInh
        refine wp_region_laterS mixedOnS (by kernel_rfl) ?_
        repeat (go_big_quiet_step ((go_at_call 14; exact calls_laterS (cS.out _))))
        refine wpQuiet_nil ?_
        intro w9 hw'
        obtain ⟨⟨wq, hwq⟩, hw''⟩ := hw'
        subst hw''
        obtain ⟨f7, f8⟩ := H8.out _ hwq
        have HBF := hid (HBV.out.trans (hwq.mono HBV.out.size))
        clear cS c7 H8 HBV hwq
        cases D
        · go_wp2_with fail
          go_ret
          exact ⟨rfl, HBF.out⟩
        · have eR := HALL.out rfl
          subst eR
          have te : ((rows.length : Int) == (rows.length : Int)) = true := by simp
          go_wp2_with fail
          go_ret
          exact ⟨rfl, HBF.out⟩
end Go.Proofs.Ytnajchehdgagmaa
