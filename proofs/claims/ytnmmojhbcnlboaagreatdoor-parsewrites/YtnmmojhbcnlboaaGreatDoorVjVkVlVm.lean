/- What the reference's Show writes: what Show does. -/
import Derived.Test.YtnmmojhbcnlboaaGreatDoorVaVdVeVfVhVbVcVi
import Derived.Test.YtnmmojhbcnlboaaGreatDoorSeSfSh
import Derived.Deep.CutBlock
import Derived.Test.YtnmmojhbcnlboaaGreatDoorTaTbTc
import Derived.Deep.DeepCutAuto
import Derived.Deep.QuietTactic
import Derived.BigQuiet
namespace Go.Proofs.YtnmmojhbcnlboaaGreatDoor.Rf
open Go.Shelf Go.RowKit Go.Lib Go.Sort
set_option linter.unusedVariables false
set_option linter.unusedSimpArgs false
attribute [local go_sem ↓] Go.wp_at_zero Go.wp_at_succ
/-- How a step of each kind is written. -/
theorem step_word {y : Stp} (h1 : 1 ≤ y.k) (h3 : y.k ≤ 3) : writeStepP y [] = stepTextP y.k := by
  unfold writeStepP
  rw [if_neg (by omega), if_neg (by omega), if_neg (by omega), if_pos rfl]
theorem step_num {y : Stp} (h : y.k = 4) (hn : I64 y.n) (ps : List (List UInt8)) : writeStepP y ps = Lib.itoa y.n := by
  unfold writeStepP
  rw [if_pos h, show_num y.n hn.1 hn.2]
theorem step_txt {y : Stp} (h : y.k = 5) (hr : rStepP y = true) (ps : List (List UInt8)) : writeStepP y ps = quoteP y.t := by
  unfold rStepP at hr
  rw [if_neg (by omega), if_neg (by omega), if_pos h] at hr
  simp only [Bool.and_eq_true, decide_eq_true_eq] at hr
  unfold writeStepP
  rw [if_neg (by omega), if_pos h, right_show y.t hr.2.2 hr.2.1]
theorem step_col {y : Stp} (h : y.k = 6) (ps : List (List UInt8)) : writeStepP y ps = y.t := by
  unfold writeStepP
  rw [if_neg (by omega), if_neg (by omega), if_pos h]
theorem step_op {y : Stp} (h7 : 7 ≤ y.k) {ps : List (List UInt8)} (hne : ps ≠ []) : writeStepP y ps = bracketsP (stepTextP y.k) ps := by
  unfold writeStepP
  rw [if_neg (by omega), if_neg (by omega), if_neg (by omega), if_neg hne]
theorem step_le {y : Stp} (hr : rStepP y = true) : 1 ≤ y.k ∧ y.k < 22 := by
  unfold rStepP at hr
  split at hr
  · cases hr
  · omega
theorem app_list2 (a b : ByteArray) : (a ++ b).data.toList = a.data.toList ++ b.data.toList := by
  rw [ByteArray.data_append, Array.toList_append]
theorem ba_ext {a b : ByteArray} (h : a.data.toList = b.data.toList) : a = b := by
  cases a; cases b
  simp only [ByteArray.mk.injEq]
  exact Array.toList_inj.1 h
set_option maxRecDepth 100000 in
set_option maxHeartbeats 16000000 in
theorem showR_good (K : Nat → Prop) (q : Option Addr) (c : Nat) (l : List Stp) (w : World) (h : ListIs rStp 3 32 K w (.slice q l.length c) l) (hK : ∀ b, K b → b < w.heap.size) (hr : rightP l = true) :
    Calls Tryz.prog 7 #[.slice q l.length c] w fun e w' => (e = .returned (.tuple #[.string ⟨(exprP l).toArray⟩, .int .i64 0]) ∧ (exprP l).length ≤ 20000000) ∧ Below w.heap.size w w' := by
  have HL := hid h
  have HK := hid hK
  have C0 : Hid (Calls Tryz.prog 14 #[.slice q l.length c] w fun e w' => e = .returned (.bool true) ∧ Below w.heap.size w w') := by have := rightR_any K q c l w (h.rel fun cs x _ hx => wStp _ _ _ _ hx) hK; rw [hr] at this; exact this
  have hl64 : l.length ≤ 64 := by
    unfold rightP at hr
    split at hr
    · cases hr
    · omega
  have HR0 : Hid (rightL (l.drop 0) 0 = true) := by
    unfold rightP at hr
    rw [if_neg (by omega)] at hr
    exact hr
  obtain ⟨E, hE⟩ : ∃ E, exprGo l [] = E := ⟨_, rfl⟩
  have HE0 : Hid (exprGo (l.drop 0) [] = E) := hE
  have HEE : Hid (exprP l = E.headD []) := by show _ = _; rw [← hE]; rfl
  obtain ⟨i0, hi0, hz0, hz1, hz2⟩ := inE_str
  obtain ⟨N, hN⟩ : ∃ N, l.length = N := ⟨_, rfl⟩
  have HN := hid hN
  rw [hN] at hl64 C0 ⊢
  clear h hK hr hE hN
  go_enter Tryz.func7, Tryz.ntmps7
  go_wp2_with fail
  refine C0.out.mono ?_
  rintro e w0 ⟨rfl, hb0⟩
  have HB0 := hid hb0
  clear C0 hb0
  go_wp2_with fail
  go_loopg [4, 18] N (fun gf s4 s18 wx => ∃ (i v : Nat) (a : Option Addr) (cc : Nat) (st : List (List UInt8)), s4 = .slice a v cc ∧ s18 = .int .i64 i ∧ i ≤ N ∧ N ≤ i + gf ∧ v ≤ i ∧ Hid (Below w.heap.size w wx) ∧ Hid (OwnR rTxt 1 9 w.heap.size wx (.slice a v cc) st) ∧ Hid (st.flatten.length ≤ i * 200000) ∧ Hid (rightL (l.drop i) v = true) ∧ Hid (exprGo (l.drop i) st = E))
  case atStart => exact ⟨0, 0, none, 0, [], rfl, rfl, by omega, by omega, by omega, HB0, OwnR.none (World.ownsRow_nil _ _ _ _), by show _ ≤ _; simp, HR0, HE0⟩
  case round =>
    clear HR0 HE0 HB0
    obtain ⟨i, v, a, cc, st, rfl, rfl, hi1, hgf, hvi, HB, HO, HF, HR, HE⟩ := hrel
    by_cases hi : i < N
    · obtain ⟨g', rfl⟩ : ∃ g', gk = g' + 1 := ⟨gk - 1, by omega⟩
      have hil : i < l.length := by rw [HN.out]; exact hi
      have hbw := HB.out
      obtain ⟨b, o, hq, _, hc⟩ := stp_at (HL.out.mono mStp (fun _ h => h) (kept_of HK.out hbw)) (by omega)
      subst hq
      obtain ⟨hrg, hok⟩ := hc i hil
      have hdr : l.drop i = l[i] :: l.drop (i + 1) := List.drop_eq_getElem_cons hil
      have hR := HR.out
      have hEx := HE.out
      rw [hdr] at hR hEx
      obtain ⟨y, hy⟩ : ∃ y, l[i] = y := ⟨_, rfl⟩
      rw [hy] at hrg hok hR hEx
      obtain ⟨s, hs⟩ : ∃ s : ByteArray, (⟨y.t.toArray⟩ : ByteArray) = s := ⟨_, rfl⟩
      have hv : y.v = .agg #[.int .u8 (y.k : Int), .string s, .int .i64 y.n] := by rw [← hs]; rfl
      rw [hs] at hrg
      have HRG := hid hrg
      obtain ⟨tk, ok, htk⟩ : ∃ tk ok, takesP y = (tk, ok) := ⟨_, _, rfl⟩
      have htk2 : tk ≤ 2 := by have := takesP_le y; rw [htk] at this; exact this
      have hR1 : (if ok = false ∨ v < tk then false else rightL (l.drop (i + 1)) (v + 1 - tk)) = true := by
        have : (if (takesP y).2 = false ∨ v < (takesP y).1 then false else rightL (l.drop (i + 1)) (v + 1 - (takesP y).1)) = true := hR
        rw [htk] at this
        exact this
      have hok2 : ok = true ∧ tk ≤ v ∧ rightL (l.drop (i + 1)) (v + 1 - tk) = true := by
        by_cases hh : ok = false ∨ v < tk
        · rw [if_pos hh] at hR1; cases hR1
        · rw [if_neg hh] at hR1
          exact ⟨by cases ok with
            | true => rfl
            | false => exact absurd (.inl rfl) hh, by omega, hR1⟩
      obtain ⟨rfl, htv, hR2⟩ := hok2
      obtain ⟨r, rfl⟩ : ∃ r, v = r + tk := ⟨v - tk, by omega⟩
      have HR2 : Hid (rightL (l.drop (i + 1)) (r + 1) = true) := by have := hR2; rw [show r + tk + 1 - tk = r + 1 by omega] at this; exact this
      obtain ⟨hfn, hfc, hfa⟩ := (ownForm HO.out)
      obtain ⟨T, hT⟩ : ∃ T, writeStepP y (st.drop r) = T := ⟨_, rfl⟩
      have HEx : Hid (exprGo (l.drop (i + 1)) (st.take r ++ [T]) = E) := by
        show _ = _
        have h2 : exprGo (l.drop (i + 1)) (st.take (st.length - (takesP y).1) ++ [writeStepP y (st.drop (st.length - (takesP y).1))]) = E := hEx
        rw [htk, ← hfn, show r + tk - tk = r by omega, hT] at h2
        exact h2
      have hdl : (st.drop r).length = tk := by rw [List.length_drop, ← hfn]; omega
      have hfl : st.flatten.length = (st.take r).flatten.length + (st.drop r).flatten.length := by
        have : st = st.take r ++ st.drop r := (List.take_append_drop r st).symm
        conv => lhs; rw [this]
        rw [List.flatten_append, List.length_append]
      have hTl : T.length ≤ 100100 + (st.drop r).flatten.length := by rw [← hT]; exact writeStepP_len y _ hok (by omega)
      have HF0 := hid HF.out
      have HF2 : Hid ((st.take r ++ [T]).flatten.length ≤ (i + 1) * 200000) := by
        show _ ≤ _
        rw [List.flatten_append, List.length_append, List.flatten_singleton]
        have := HF.out
        omega
      have hT9 : T.length ≤ 1000000000 := by have := HF.out; omega
      obtain ⟨WA, hWA, hth, W1, hW1, hg1, hb1⟩ := box_three wr 29 (.int .u8 0) (.string ⟨#[]⟩) (.int .i64 0) (.int .u8 (y.k : Int)) (.string s) (.int .i64 y.n)
      have HTH := hid hth
      have HW1 := hid hW1
      have HON : Hid ((#[.int .u8 (y.k : Int), .string s, .int .i64 y.n] : Array Value).all (·.oneCell') = true) := by show _ = _; simp [Value.oneCell']
      have hl1 : wr.heap.size < W1.heap.size := (Array.getElem?_eq_some_iff.1 hg1).1
      have hbW : Below w.heap.size w W1 := hbw.trans (hb1.mono hbw.size)
      have HR1 : Hid (∀ V, Below W1.heap.size W1 V → V.rangeAt wr.heap.size 0 [.int .u8 (y.k : Int), .string s, .int .i64 y.n]) := fun V hb j u hu => by rw [Nat.zero_add]; exact cell_of_row ((hb.block _ hl1).trans hg1) (by simpa using hu)
      have HR10 := hid (HR1.out W1 (Below.refl _ _))
      have C : Hid (Calls Tryz.prog 9 #[.agg #[.int .u8 (y.k : Int), .string s, .int .i64 y.n]] W1 fun e w' => e = .returned (.tuple #[.int .i64 (tk : Int), .bool true]) ∧ Below W1.heap.size W1 w') := by have := takesR_any y W1 hok.w; rw [hv, htk] at this; exact this
      have HBW := hid hbW
      have HO1 := hid (HO.out.keep mTxt hb1)
      have HVY := hid (And.intro hv hok)
      have HTT := hid (And.intro hT (And.intro hT9 hdl))
      have HFA := hid (And.intro hfc hfa)
      have hsub : ((r + tk : Nat) : Int) - (tk : Int) = (r : Int) := by omega
      have z0 : (0 : Int) ≤ (i : Int) := by omega
      have z1 : (i : Int) < (N : Int) := by omega
      have HI := hid (And.intro hi (And.intro hl64 (And.intro hvi hgf)))
      have HTK := hid htk
      have HSY : Hid (s.data.toList = y.t) := by show _ = _; rw [← hs]
      clear hc hrg hok hdr hR hEx hy hs hv htk hR1 hR2 hfn hfc hfa hT hdl hfl hTl hT9 hth hW1 hg1 hl1 hb1 hbw hbW HR HE HF HO hil
      go_wp2_with (first | (refine wpList_load_mid rfl 29 _ rfl b (o + i * 3) rfl _ _ HRG.out Tryz.underlying29 rfl sz_step ?_) | (refine wpList_store_mid rfl 29 _ _ rfl wr.heap.size 0 #[.int .u8 (y.k : Int), .string s, .int .i64 y.n] rfl rfl HTH.out sz_step HON.out ?_; rw [show WA.setCells wr.heap.size 0 (#[.int .u8 (y.k : Int), .string s, .int .i64 y.n] : Array Value).toList = W1 from HW1.out]) | (refine wpList_load_mid rfl 29 _ rfl wr.heap.size 0 rfl _ _ HR10.out Tryz.underlying29 rfl sz_step ?_))
      refine C.out.mono ?_
      rintro e w2 ⟨rfl, hb2⟩
      have hbD : Below W1.heap.size W1 w2 := hb2
      have HB3 : Hid (Below w.heap.size w w2) := HBW.out.trans (hb2.mono HBW.out.size)
      have hbx := HR1.out w2 hb2
      have d0 : w2.cell? ⟨wr.heap.size, 0, none⟩ = some (.int .u8 (y.k : Int)) := hbx 0 _ rfl
      have HCX : Hid (∀ V, Below w2.heap.size w2 V → V.cell? ⟨wr.heap.size, 0, none⟩ = some (.int .u8 (y.k : Int)) ∧ V.cell? ⟨wr.heap.size, 1, none⟩ = some (.string s) ∧ V.cell? ⟨wr.heap.size, 2, none⟩ = some (.int .i64 y.n)) := fun V hb => by
        have hr := HR1.out V (hb2.trans (hb.mono hb2.size))
        exact ⟨hr 0 _ rfl, hr 1 _ rfl, hr 2 _ rfl⟩
      have HOD := hid (HO1.out.keep mTxt hb2)
      have hst : (r + tk) = st.length := (ownForm HO1.out).1
      obtain ⟨qt, dt, hqt, hlt⟩ := ownTail mTxt HOD.out (bytes := 16) r (by omega) (by have := HI.out; omega)
      rw [show r + tk - r = tk by omega] at hqt
      have hsl : ∀ W, (Instr.slice 24 (.slice a (r + tk) cc) (some (.int .i64 (r : Int))) none none).run Tryz.prog W = .ok (.slice qt tk dt) W := fun W => by rw [tail_slice W a (r + tk) cc r (by omega), hqt]
      have hsh : ∀ W, (Instr.slice 24 (.slice a (r + tk) cc) none (some (.int .i64 (r : Int))) none).run Tryz.prog W = .ok (.slice a r cc) W := fun W => head_slice W a (r + tk) cc r (by have := HFA.out.1; omega) HFA.out.2
      have HSL := hid hsl
      have HSH := hid hsh
      have HLT := hid (And.intro hlt hst)
      obtain ⟨ST, hST⟩ : ∃ S : ByteArray, (⟨T.toArray⟩ : ByteArray) = S := ⟨_, rfl⟩
      have HST := hid hST
      have hrs : rStepP y = true ∧ takesN y.k = tk := by
        have h1 := HTK.out
        have h2 := takes_of (x := y) (by rw [h1])
        rw [h1] at h2
        exact ⟨h2.1, h2.2.symm⟩
      have HRS := hid hrs
      have hk22 := step_le hrs.1
      obtain ⟨kk, hkk⟩ : ∃ k, y.k = k := ⟨_, rfl⟩
      have HKK := hid hkk
      rw [hkk] at d0 hk22
      have HCK : Hid (∀ V, Below w2.heap.size w2 V → V.cell? ⟨wr.heap.size, 0, none⟩ = some (.int .u8 (kk : Int)) ∧ V.cell? ⟨wr.heap.size, 1, none⟩ = some (.string s) ∧ V.cell? ⟨wr.heap.size, 2, none⟩ = some (.int .i64 y.n)) := by have := HCX.out; rw [hkk] at this; exact this
      clear C hb2 hbD hbx HR1 HR10 hst hqt hlt hsl hsh hST hrs hkk HTH HW1 HON hWA HRG HO1 HBW HB HCX
      go_upto_block 2 with fail
      clear d0
      go_cut [10] (fun s10 wx => s10 = .string ST ∧ Hid (Below w2.heap.size w2 wx))
      case first =>
        obtain ⟨-, e1, e2⟩ := HCK.out w2 (Below.refl _ _)
        have HTD : Hid (T = writeStepP y (st.drop r) ∧ (st.drop r).length = tk) := ⟨HTT.out.1.symm, HTT.out.2.2⟩
        have hsl0 : kk ≤ 6 → st.drop r = [] := fun h6 => by
          have h1 := HTD.out.2
          rw [← HRS.out.2, HKK.out] at h1
          unfold takesN at h1
          rw [if_pos h6] at h1
          exact List.length_eq_zero_iff.1 h1
        by_cases c1 : kk = 1
        case pos =>
          have q1 : ((kk : Int) == 1) = true := by simp; omega
          have q2 : ((kk : Int) == 2) = false := beq_eq_false_iff_ne.2 (by omega)
          have q3 : ((kk : Int) == 3) = false := beq_eq_false_iff_ne.2 (by omega)
          have q4 : ((kk : Int) == 4) = false := beq_eq_false_iff_ne.2 (by omega)
          have q5 : ((kk : Int) == 5) = false := beq_eq_false_iff_ne.2 (by omega)
          have q6 : ((kk : Int) == 6) = false := beq_eq_false_iff_ne.2 (by omega)
          have he : ST = ⟨#[110, 117, 108, 108]⟩ := by
            rw [← HST.out, HTD.out.1, hsl0 (by omega), step_word (by rw [HKK.out]; omega) (by rw [HKK.out]; omega), HKK.out, c1]
            rfl
          have HE9 := hid he
          clear he c1 hsl0
          go_wp2_with fail
          go_meet
          case rel => exact ⟨by rw [HE9.out], Below.refl _ _⟩
        by_cases c2 : kk = 2
        case pos =>
          have q1 : ((kk : Int) == 1) = false := beq_eq_false_iff_ne.2 (by omega)
          have q2 : ((kk : Int) == 2) = true := by simp; omega
          have q3 : ((kk : Int) == 3) = false := beq_eq_false_iff_ne.2 (by omega)
          have q4 : ((kk : Int) == 4) = false := beq_eq_false_iff_ne.2 (by omega)
          have q5 : ((kk : Int) == 5) = false := beq_eq_false_iff_ne.2 (by omega)
          have q6 : ((kk : Int) == 6) = false := beq_eq_false_iff_ne.2 (by omega)
          have he : ST = ⟨#[116, 114, 117, 101]⟩ := by
            rw [← HST.out, HTD.out.1, hsl0 (by omega), step_word (by rw [HKK.out]; omega) (by rw [HKK.out]; omega), HKK.out, c2]
            rfl
          have HE9 := hid he
          clear he c2 hsl0
          go_wp2_with fail
          go_meet
          case rel => exact ⟨by rw [HE9.out], Below.refl _ _⟩
        by_cases c3 : kk = 3
        case pos =>
          have q1 : ((kk : Int) == 1) = false := beq_eq_false_iff_ne.2 (by omega)
          have q2 : ((kk : Int) == 2) = false := beq_eq_false_iff_ne.2 (by omega)
          have q3 : ((kk : Int) == 3) = true := by simp; omega
          have q4 : ((kk : Int) == 4) = false := beq_eq_false_iff_ne.2 (by omega)
          have q5 : ((kk : Int) == 5) = false := beq_eq_false_iff_ne.2 (by omega)
          have q6 : ((kk : Int) == 6) = false := beq_eq_false_iff_ne.2 (by omega)
          have he : ST = ⟨#[102, 97, 108, 115, 101]⟩ := by
            rw [← HST.out, HTD.out.1, hsl0 (by omega), step_word (by rw [HKK.out]; omega) (by rw [HKK.out]; omega), HKK.out, c3]
            rfl
          have HE9 := hid he
          clear he c3 hsl0
          go_wp2_with fail
          go_meet
          case rel => exact ⟨by rw [HE9.out], Below.refl _ _⟩
        by_cases c4 : kk = 4
        case pos =>
          have q1 : ((kk : Int) == 1) = false := beq_eq_false_iff_ne.2 (by omega)
          have q2 : ((kk : Int) == 2) = false := beq_eq_false_iff_ne.2 (by omega)
          have q3 : ((kk : Int) == 3) = false := beq_eq_false_iff_ne.2 (by omega)
          have q4 : ((kk : Int) == 4) = true := by simp; omega
          have q5 : ((kk : Int) == 5) = false := beq_eq_false_iff_ne.2 (by omega)
          have q6 : ((kk : Int) == 6) = false := beq_eq_false_iff_ne.2 (by omega)
          have C4 : Hid (Calls Tryz.prog 19 #[.int .i64 y.n] w2 fun e w' => e = .returned (.string ST) ∧ w' = w2) := by
            have hn := HVY.out.2.2.1
            have := numberT_any y.n w2 hn.1 hn.2
            rw [← step_num (HKK.out.trans c4) hn (st.drop r), ← HTD.out.1, HST.out] at this
            exact this
          clear c4 hsl0
          go_wp2_with fail
          refine C4.out.mono ?_
          rintro e w3 ⟨rfl, hw3⟩
          have HB9 : Hid (Below w2.heap.size w2 w3) := by show Below _ _ _; rw [hw3]; exact Below.refl _ _
          clear C4 hw3
          go_wp2_with fail
          go_meet
          case rel => exact ⟨rfl, HB9⟩
        by_cases c5 : kk = 5
        case pos =>
          have q1 : ((kk : Int) == 1) = false := beq_eq_false_iff_ne.2 (by omega)
          have q2 : ((kk : Int) == 2) = false := beq_eq_false_iff_ne.2 (by omega)
          have q3 : ((kk : Int) == 3) = false := beq_eq_false_iff_ne.2 (by omega)
          have q4 : ((kk : Int) == 4) = false := beq_eq_false_iff_ne.2 (by omega)
          have q5 : ((kk : Int) == 5) = true := by simp; omega
          have q6 : ((kk : Int) == 6) = false := beq_eq_false_iff_ne.2 (by omega)
          have C5 : Hid (Calls Tryz.prog 20 #[.string s] w2 fun e w' => e = .returned (.string ST) ∧ Below w2.heap.size w2 w') := by
            have hst : s.data.toList = y.t := HSY.out
            have hss : s.data.toList.length = s.size := by simp
            have hl := HVY.out.2.2.2
            have := quoteT_any s w2 (by rw [← hss, hst]; omega)
            rw [hst, ← step_txt (HKK.out.trans c5) HRS.out.1 (st.drop r), ← HTD.out.1, HST.out] at this
            exact this
          clear c5 hsl0
          go_wp2_with fail
          refine C5.out.mono ?_
          rintro e w3 ⟨rfl, hb3⟩
          have HB9 := hid hb3
          clear C5 hb3
          go_wp2_with fail
          go_meet
          case rel => exact ⟨rfl, HB9⟩
        by_cases c6 : kk = 6
        case pos =>
          have q1 : ((kk : Int) == 1) = false := beq_eq_false_iff_ne.2 (by omega)
          have q2 : ((kk : Int) == 2) = false := beq_eq_false_iff_ne.2 (by omega)
          have q3 : ((kk : Int) == 3) = false := beq_eq_false_iff_ne.2 (by omega)
          have q4 : ((kk : Int) == 4) = false := beq_eq_false_iff_ne.2 (by omega)
          have q5 : ((kk : Int) == 5) = false := beq_eq_false_iff_ne.2 (by omega)
          have q6 : ((kk : Int) == 6) = true := by simp; omega
          have he : ST = s := by
            rw [← HST.out, HTD.out.1, step_col (HKK.out.trans c6), ← HSY.out]
          have HE9 := hid he
          clear he c6 hsl0
          go_wp2_with fail
          go_meet
          case rel => exact ⟨by rw [HE9.out], Below.refl _ _⟩
        have q1 : ((kk : Int) == 1) = false := beq_eq_false_iff_ne.2 (by omega)
        have q2 : ((kk : Int) == 2) = false := beq_eq_false_iff_ne.2 (by omega)
        have q3 : ((kk : Int) == 3) = false := beq_eq_false_iff_ne.2 (by omega)
        have q4 : ((kk : Int) == 4) = false := beq_eq_false_iff_ne.2 (by omega)
        have q5 : ((kk : Int) == 5) = false := beq_eq_false_iff_ne.2 (by omega)
        have q6 : ((kk : Int) == 6) = false := beq_eq_false_iff_ne.2 (by omega)
        have hk7 : 7 ≤ kk := by omega
        obtain ⟨m, hm⟩ : ∃ m, kk = m + 7 := ⟨kk - 7, by omega⟩
        have hm15 : m < 15 := by omega
        have u1 : (kk : Int) - 7 = (m : Int) := by omega
        have u2 : IntKind.u8.wrap (m : Int) = (m : Int) := by rw [IntKind.wrap_u8]; omega
        have u3 : (0 : Int) ≤ (m : Int) := by omega
        have u4 : (m : Int) < 15 := by omega
        have hdl : (st.drop r).length = tk := HTD.out.2
        have htk1 : 1 ≤ tk := by rw [← HRS.out.2, HKK.out]; unfold takesN; rw [if_neg (by omega)]; split <;> omega
        have hdne : st.drop r ≠ [] := fun e => by rw [e] at hdl; simp at hdl; omega
        obtain ⟨W, hW⟩ : ∃ W, stepTextP kk = W := ⟨_, rfl⟩
        have hWl : W.length ≤ 10 := by
          rw [← hW]
          have h : ∀ j : Fin 22, (stepTextP j.1).length ≤ 10 := by decide +kernel
          exact h ⟨kk, hk22.2⟩
        have hTW : T = bracketsP W (st.drop r) := by rw [HTD.out.1, step_op (by rw [HKK.out]; exact hk7) hdne, HKK.out, hW]
        obtain ⟨OP, hOP⟩ : ∃ S : ByteArray, (⟨W.toArray⟩ : ByteArray) = S := ⟨_, rfl⟩
        have hOPl : OP.data.toList = W := by rw [← hOP]
        have hOPs : OP.size = W.length := by rw [← hOPl]; simp
        obtain ⟨w3, hw3⟩ : ∃ V, w2.drew = V := ⟨_, rfl⟩
        have hb3 : Below w2.heap.size w2 w3 := by rw [← hw3]; exact (Below.refl _ _).drew
        obtain ⟨w4, hw4⟩ : ∃ V, w3.alloc (.cells (strV opsP).toArray 9) = V := ⟨_, rfl⟩
        have hb34 : Below w3.heap.size w3 w4 := by rw [← hw4]; exact below_alloc _ _
        have hb4 : Below w2.heap.size w2 w4 := hb3.trans (hb34.mono hb3.size)
        have hg4 : w4.heap[w3.heap.size]? = some (.cells (strV opsP).toArray 9 (0, 0)) := by rw [← hw4]; exact heap_alloc_new w3 _
        have hop : w4.cell? ⟨w3.heap.size, m, none⟩ = some (.string OP) := by
          refine cell_of_row hg4 ?_
          have := ops_at kk hk7 hk22.2
          rw [show kk - 7 = m by omega, hW] at this
          simp only [strV, List.getElem?_toArray, List.getElem?_map, this]
          rw [← hOP]
          rfl
        have s3 := (HCK.out w3 hb3).1
        have s4 := (HCK.out w4 hb4).1
        have HS34 := hid (And.intro s3 s4)
        have p1 : ¬ 9223372036854775807 < 1 + OP.size := by rw [hOPs]; omega
        obtain ⟨a0, ha0⟩ : ∃ S, (⟨#[40]⟩ : ByteArray) ++ OP = S := ⟨_, rfl⟩
        have ha0l : a0.data.toList = 40 :: W := by rw [← ha0, app_list2, hOPl]; rfl
        have HA0S : Hid (a0.size ≤ 100 + 0 * 20000001) := by
          show _ ≤ _
          have h1 : a0.data.toList.length = a0.size := by simp
          rw [ha0l] at h1
          simp only [List.length_cons] at h1
          omega
        have CO := hid (ops_any w3)
        rw [hw4] at CO
        have HB4 := hid hb4
        have HA0 := hid ha0l
        have HTW := hid hTW
        have HWL := hid (And.intro hWl (And.intro hdl htk1))
        clear hb3 hb34 hb4 hg4 hw4 s3 s4 ha0l hTW hWl hdl htk1 hdne hOP hOPl hOPs hm hk7 hsl0 hW e1 e2
        go_upto_region 11 with fail
        refine wp_region_held_drew (S := fun V => V.cell? ⟨wr.heap.size, 0, none⟩ = some (.int .u8 (kk : Int))) (by kernel_rfl) (by rw [hw3]; exact HS34.out.1) (fun hHeld => ?_)
        refine wpAnyH_take (i := 1) (v := .pointer (some ⟨wr.heap.size, 0, none⟩)) rfl (by kernel_rfl) (by kernel_rfl) (by kernel_rfl) (fun _ _ _ h => h) (.inl ⟨by rfl, fun W hW => by go_simp⟩) hHeld ?_
        simp only [Act.put, List.getElem_toArray, List.getElem_cons_zero, List.getElem_cons_succ, List.setIfInBounds_toArray, List.set_cons_zero, List.set_cons_succ]
        refine wpAnyH_take (i := 2) (v := .int .u8 (kk : Int)) rfl (by kernel_rfl) (by kernel_rfl) (by kernel_rfl) (fun _ _ _ h => h) (.inl ⟨by rfl, fun W hW => by go_simp⟩) hHeld ?_
        simp only [Act.put, List.getElem_toArray, List.getElem_cons_zero, List.getElem_cons_succ, List.setIfInBounds_toArray, List.set_cons_zero, List.set_cons_succ]
        refine wpAnyH_take (i := 3) (v := .int .u8 (m : Int)) rfl (by kernel_rfl) (by kernel_rfl) (by kernel_rfl) (fun _ _ _ h => h) (.inl ⟨by rfl, fun W hW => by go_simp⟩) hHeld ?_
        simp only [Act.put, List.getElem_toArray, List.getElem_cons_zero, List.getElem_cons_succ, List.setIfInBounds_toArray, List.set_cons_zero, List.set_cons_succ]
        rw [hw3] at hHeld ⊢
        clear hw3
        refine wpAnyH_ready (rs := [0]) (by kernel_rfl) (by simp) ?_
        refine AllReadyH.cons rfl (fun K' hK => ?_) AllReadyH.nil
        rw [if_pos (by rfl)]
        go_simp
        go_at_call 21
        refine CO.out.mono ?_
        rintro e w5 ⟨rfl, rfl⟩
        refine hK.out _ _ HS34.out.2 (fun hHeld => ?_)
        clear hK K' CO
        refine wpAnyH_ready (rs := [4]) (by kernel_rfl) (by simp) ?_
        refine AllReadyH.cons rfl (fun K' hK => ?_) AllReadyH.nil
        rw [if_pos (by rfl)]
        go_simp
        refine hK.out _ _ HS34.out.2 (fun hHeld => ?_)
        clear hK K'
        refine wpAnyH_ready (rs := [5]) (by kernel_rfl) (by simp) ?_
        refine AllReadyH.cons rfl (fun K' hK => ?_) AllReadyH.nil
        rw [if_pos (by rfl)]
        go_simp
        refine hK.out _ _ HS34.out.2 (fun hHeld => ?_)
        clear hK K'
        refine wpAnyH_ready (rs := [6]) (by kernel_rfl) (by simp) ?_
        refine AllReadyH.cons rfl (fun K' hK => ?_) AllReadyH.nil
        rw [if_pos (by rfl)]
        go_simp
        refine hK.out _ _ HS34.out.2 (fun hHeld => ?_)
        clear hK K'
        refine wpAnyH_ready (rs := [7]) (by kernel_rfl) (by simp) ?_
        refine AllReadyH.cons rfl (fun K' hK => ?_) AllReadyH.nil
        rw [if_pos (by rfl)]
        go_simp
        refine hK.out _ _ HS34.out.2 (fun hHeld => ?_)
        clear hK K'
        refine wpAnyH_done (by kernel_rfl) ?_ _
        clear hHeld hop u1 u2 u3 u4 p1 ha0
        have hsl := HSL.out
        have HPL : Hid (∀ t ∈ st.drop r, t.length ≤ 20000000) := fun t ht => by
          have h1 : t.length ≤ st.flatten.length := by
            have hm := List.mem_of_mem_drop ht
            have := List.sublist_flatten_of_mem hm
            exact this.length_le
          have h2 := HF0.out
          have h3 := HI.out
          have h4 : i * 200000 ≤ 64 * 200000 := Nat.mul_le_mul_right _ (by omega)
          omega
        go_wp2_with fail
        go_loopg [10, 44] tk (fun gf s10 s44 wx => ∃ (j : Nat) (acc : ByteArray), s10 = .string acc ∧ s44 = .int .i64 j ∧ j ≤ tk ∧ tk ≤ j + gf ∧ Hid (Below w2.heap.size w2 wx) ∧ Hid (acc.data.toList = 40 :: W ++ partsL ((st.drop r).take j)) ∧ Hid (acc.size ≤ 100 + j * 20000001))
        case atStart => exact ⟨0, a0, rfl, rfl, by omega, by omega, HB4, by show _ = _; rw [HA0.out]; simp [partsL], HA0S⟩
        case round =>
          clear HA0 HA0S HB4 hsl
          obtain ⟨j, acc, rfl, rfl, hj1, hjf, HBZ, HAC, HAS⟩ := hrel
          by_cases hj : j < tk
          · obtain ⟨g', rfl⟩ : ∃ g', gk = g' + 1 := ⟨gk - 1, by omega⟩
            have hjl : j < (st.drop r).length := by rw [HWL.out.2.1]; exact hj
            obtain ⟨b, o, hq, _, hc⟩ := txt_at (HLT.out.1.mono mTxt (fun _ h => h) (kept_of (fun b hb => hb.2) HBZ.out)) (by omega)
            subst hq
            obtain ⟨hcell, -⟩ := hc j hjl
            have htk : (st.drop r).take (j + 1) = (st.drop r).take j ++ [(st.drop r)[j]] := by rw [List.take_add_one, List.getElem?_eq_getElem hjl]; rfl
            have hlen := HPL.out _ (List.getElem_mem hjl)
            obtain ⟨y2, hy2⟩ : ∃ y, (st.drop r)[j] = y := ⟨_, rfl⟩
            rw [hy2] at hcell htk hlen
            obtain ⟨PS, hPS⟩ : ∃ S : ByteArray, (⟨y2.toArray⟩ : ByteArray) = S := ⟨_, rfl⟩
            rw [hPS] at hcell
            have hPl : PS.data.toList = y2 := by rw [← hPS]
            have hPs : PS.size = y2.length := by rw [← hPl]; simp
            obtain ⟨x1, hx1⟩ : ∃ S, (⟨#[32]⟩ : ByteArray) ++ PS = S := ⟨_, rfl⟩
            obtain ⟨x2, hx2⟩ : ∃ S, acc ++ x1 = S := ⟨_, rfl⟩
            have hx1s : x1.size = 1 + PS.size := by rw [← hx1, ByteArray.size_append]; rfl
            have hx2s : x2.size = acc.size + x1.size := by rw [← hx2, ByteArray.size_append]
            have p1 : ¬ 9223372036854775807 < 1 + PS.size := by omega
            have p2 : ¬ 9223372036854775807 < acc.size + x1.size := by have := HAS.out; have h2 : j * 20000001 ≤ 2 * 20000001 := Nat.mul_le_mul_right _ (by have := htk2; omega); omega
            have HAC2 : Hid (x2.data.toList = 40 :: W ++ partsL ((st.drop r).take (j + 1))) := by
              show _ = _
              rw [← hx2, app_list2, HAC.out, ← hx1, app_list2, hPl, htk, partsL_app]
              simp [partsL]
            have HAS2 : Hid (x2.size ≤ 100 + (j + 1) * 20000001) := by show _ ≤ _; have := HAS.out; omega
            have z4 : (0 : Int) ≤ (j : Int) := by omega
            have z5 : (j : Int) < (tk : Int) := by omega
            have hj2 : tk ≤ 2 := htk2
            clear hc htk hlen hy2 hPS hPl hPs hx1s hx2s HAC HAS hjl
            go_wp2_with fail
            go_roundg g'
            case measure => omega
            case rel => exact ⟨j + 1, x2, rfl, by go_num, by omega, by omega, HBZ, HAC2, HAS2⟩
          · have z5 : ¬ (j : Int) < (tk : Int) := by omega
            have p2 : ¬ 9223372036854775807 < acc.size + 1 := by have := HAS.out; have h2 : j * 20000001 ≤ 2 * 20000001 := Nat.mul_le_mul_right _ (by have := htk2; omega); omega
            have he : acc ++ (⟨#[41]⟩ : ByteArray) = ST := by
              refine ba_ext ?_
              rw [app_list2, HAC.out, List.take_of_length_le (by rw [HWL.out.2.1]; omega), ← HST.out]
              show _ = T
              rw [HTW.out]
              rfl
            clear HAC HAS
            go_wp2_with fail
            go_meet
            case rel => exact ⟨rfl, HBZ⟩
      case rest =>
        obtain ⟨rfl, HBX⟩ := hcut
        have hsh := HSH.out
        have HOC := hid (HOD.out.keep mTxt HBX.out)
        have HBC : Hid (Below w.heap.size w wc) := HB3.out.trans (HBX.out.mono HB3.out.size)
        have hhd := ownHead HOC.out r (by omega)
        have hrl : (st.take r).length = r := by rw [List.length_take, ← (ownForm HOC.out).1]; omega
        have hi64 := HI.out
        obtain ⟨ph, ch, eh, hlh⟩ := hhd.list mTxt (bytes := 16) (by rw [hrl]; omega)
        rw [hrl] at eh
        cases eh
        obtain ⟨X0, hX0⟩ : ∃ V, wc.alloc (.cells #[] 9) = V := ⟨_, rfl⟩
        have hbX0 : Below wc.heap.size wc X0 := by rw [← hX0]; exact below_alloc _ _
        have ho0 : OwnR rTxt 1 9 w.heap.size X0 (.slice (some ⟨wc.heap.size, 0, none⟩) 0 0) ([] : List (List UInt8)) := by
          have := own_texts w.heap.size wc [] HBC.out.size (by simp) (by simp)
          rw [show (strV []).toArray = #[] from rfl, hX0] at this
          exact this
        have hs0 : X0.heap.size = wc.heap.size + 1 := by rw [← hX0]; simp
        obtain ⟨v1, X1, ea, ho1, hk1, -⟩ := ho0.app mTxt (bytes := 16) (ts := 24) Tryz.underlying24 hi0 hz0 hz1 hz2 rfl (by omega) (by have := HBC.out.size; omega) (K2 := From w.heap.size wc) (hlh.mono mTxt (fun _ h => h) (kept_of (fun b hb => hb.2) hbX0)) (fun cs y h u hu => by obtain ⟨rfl, _⟩ := h; simp at hu; subst hu; rfl) (fun b hb => ⟨hb.1, by have := hb.2; omega, fun e => by simp [Value.ownBlock] at e; have := hb.2; omega⟩) (by rw [hrl]; simp; omega) (by rw [hrl]; unfold maxLen; simp; omega) 24
        rw [hrl] at ea
        obtain ⟨a1, c1, ev1⟩ := ho1.slice
        rw [List.nil_append, hrl] at ev1
        subst ev1
        rw [List.nil_append] at ho1
        have hBX1 : Below w.heap.size w X1 := ⟨hk1.os.trans (hbX0.os.trans HBC.out.os), hk1.tape.trans (hbX0.tape.trans HBC.out.tape), hk1.output.trans (hbX0.output.trans HBC.out.output), by have := hk1.size; have := hbX0.size; have := HBC.out.size; omega, fun b hb => by
          have h1 := HBC.out.size
          exact (hk1.block b ⟨by omega, fun e => by simp [Value.ownBlock] at e; omega⟩).trans ((hbX0.block b (by omega)).trans (HBC.out.block b hb))⟩
        obtain ⟨v2, X2, eb, ho2, hB2, -, -⟩ := ho1.push mTxt (bytes := 16) (ts := 24) Tryz.underlying24 hi0 hz0 hz1 hz2 rfl (by omega) (by have := hBX1.size; omega) (x := T) (cs := [.string ST]) (K2 := fun _ => False) rfl (by intro c hc; simp at hc; subst hc; rfl) (fun b hb => hb.elim) ⟨by rw [HST.out], HTT.out.2.1⟩ (by rw [hrl]; omega) (by rw [hrl]; unfold maxLen; omega)
        have HB5 : Hid (Below w.heap.size w X2) := hB2 _ _ hBX1 (Nat.le_refl _)
        have hlen : (st.take r ++ [T]).length = r + 1 := by rw [List.length_append, hrl]; rfl
        obtain ⟨a', cc', ev⟩ := ho2.slice
        rw [hlen] at ev
        subst ev
        have HO5 := hid ho2
        clear hlh hhd hbX0 ho0 hs0 ho1 hk1 hBX1 ho2 hB2 hlen hrl HOC HBC HTT HVY HSL HSH HFA HB3 HOD HLT
        go_wp2_with (first | (at_builtin; refine Lib.wpList_append_run _ rfl _ _ _ _ rfl (.slice (some ⟨wc.heap.size, 0, none⟩) 0 0) (.slice a r cc) rfl rfl _ _ ea ?_; clear ea) | (at_builtin; refine Lib.wpList_append_run _ rfl _ _ _ _ rfl (.slice a1 r c1) (.slice (some ⟨X1.heap.size, 0, none⟩) 1 1) rfl rfl _ _ eb ?_))
        go_roundg g'
        case measure => omega
        case rel => exact ⟨i + 1, r + 1, a', cc', st.take r ++ [T], rfl, by go_num, by omega, by omega, by omega, HB5, HO5, HF2, HR2, HEx⟩
    · have z1 : ¬ (i : Int) < (N : Int) := by omega
      have hnil : l.drop i = [] := List.drop_of_length_le (by rw [HN.out]; omega)
      have hR := HR.out
      have hEx := HE.out
      rw [hnil] at hR hEx
      have hv1 : v = 1 := by have : decide (v = 1) = true := hR; exact of_decide_eq_true this
      have hEs : st = E := hEx
      obtain ⟨hfn, hfc, hfa⟩ := (ownForm HO.out)
      obtain ⟨T, rfl⟩ : ∃ T, st = [T] := by
        match st, hfn with
        | [T], _ => exact ⟨T, rfl⟩
        | [], h => simp at h; omega
        | _ :: _ :: _, h => simp at h; omega
      obtain ⟨p, cp, ep, hlp⟩ := HO.out.list mTxt (bytes := 16) (by simp)
      obtain ⟨b, o, hq, _, hc⟩ := txt_at hlp (by simp)
      subst hq
      have hcell := (hc 0 (by simp)).1
      have hcell0 : wr.cell? ⟨b, o, none⟩ = some (.string ⟨T.toArray⟩) := hcell
      have HEP : Hid (exprP l = T) := by show _ = _; rw [HEE.out, ← hEs]; rfl
      have HLE : Hid (T.length ≤ 20000000) := by have := HF.out; show _ ≤ _; simp at this; omega
      obtain ⟨S, hS⟩ : ∃ S : ByteArray, (⟨T.toArray⟩ : ByteArray) = S := ⟨_, rfl⟩
      rw [hS] at hcell0
      have HS := hid hS
      simp only [Value.slice.injEq] at ep
      obtain ⟨ea, -, ec⟩ := ep
      have ho0 : o = 0 := by
        rcases hfa with ⟨h, _⟩ | ⟨g, h⟩
        · rw [ea] at h; cases h
        · rw [ea] at h; cases h; rfl
      subst ho0
      subst ea
      subst ec
      subst hv1
      clear hnil hR hEx hEs hfn hfc hfa hlp hc hcell HO HF HR HE HEE hS hi hgf hvi hl64
      go_wp2_with fail
      go_ret2
      exact ⟨⟨by rw [HEP.out, HS.out]; rfl, by rw [HEP.out]; exact HLE.out⟩, HB.out⟩
end Go.Proofs.YtnmmojhbcnlboaaGreatDoor.Rf
/- Show, the program's and the reference's: of any list of steps. -/
namespace Go.Proofs.YtnmmojhbcnlboaaGreatDoor.Rf
open Go.Shelf Go.RowKit Go.Lib Go.Sort
set_option linter.unusedVariables false
set_option linter.unusedSimpArgs false
attribute [local go_sem ↓] Go.wp_at_zero Go.wp_at_succ
def showE (l : List Stp) : List UInt8 × Int := if rightP l = true then (exprP l, 0) else ([], 13)
theorem narrow_steps {K : Nat → Prop} {w : World} {v : Value} {l : List Stp} (h : ListIs rStpW 3 32 K w v l) (hr : rightP l = true) : ListIs rStp 3 32 K w v l :=
  h.rel fun cs y hy hk => ⟨hk.1, okP_of (right_each (.inr hr) y hy) hk.2.2.1⟩
set_option maxRecDepth 100000 in
set_option maxHeartbeats 8000000 in
theorem showR_any (K : Nat → Prop) (q : Option Addr) (c : Nat) (l : List Stp) (w : World) (h : ListIs rStpW 3 32 K w (.slice q l.length c) l) (hK : ∀ b, K b → b < w.heap.size) :
    Calls Tryz.prog 7 #[.slice q l.length c] w fun e w' => (e = .returned (.tuple #[.string ⟨(showE l).1.toArray⟩, .int .i64 (showE l).2]) ∧ (showE l).1.length ≤ 20000000) ∧ Below w.heap.size w w' := by
  cases hr : rightP l with
  | true =>
    have h1 := showR_good K q c l w (narrow_steps h hr) hK hr
    rw [show showE l = (exprP l, 0) by unfold showE; rw [if_pos hr]]
    exact h1
  | false =>
    have C0 : Hid (Calls Tryz.prog 14 #[.slice q l.length c] w fun e w' => e = .returned (.bool false) ∧ Below w.heap.size w w') := by have := rightR_any K q c l w h hK; rw [hr] at this; exact this
    rw [show showE l = ([], 13) by unfold showE; rw [if_neg (by simp [hr])]]
    obtain ⟨N, hN⟩ : ∃ N, l.length = N := ⟨_, rfl⟩
    rw [hN] at C0 ⊢
    clear h hK hr hN
    go_enter Tryz.func7, Tryz.ntmps7
    go_wp2_with fail
    refine C0.out.mono ?_
    rintro e w0 ⟨rfl, hb0⟩
    have HB0 := hid hb0
    clear C0 hb0
    go_wp2_with fail
    go_ret2
    exact ⟨⟨rfl, by simp⟩, HB0.out⟩
set_option maxRecDepth 100000 in
set_option maxHeartbeats 8000000 in
theorem show_any (K : Nat → Prop) (q : Option Addr) (c : Nat) (l : List Stp) (w : World) (h : ListIs rStpW 3 32 K w (.slice q l.length c) l) (hK : ∀ b, K b → b < w.heap.size) (hG : GA w) :
    Calls Tryz.prog 6 #[.slice q l.length c] w fun e w' => e = .returned (.tuple #[.string ⟨(showE l).1.toArray⟩, .int .i64 (showE l).2]) ∧ Below w.heap.size w w' := by
  have C0 : Hid (Calls Tryz.prog 13 #[.slice q l.length c] w fun e w' => e = .returned (.bool (rightP l)) ∧ Below w.heap.size w w') := right_w K q c l w h hK hG.gw
  cases hr : rightP l with
  | true =>
    have C1 : Hid (∀ V, Below w.heap.size w V → Calls Tryz.prog 16 #[.slice q l.length c] V fun e w' => e = .returned (.string ⟨(exprP l).toArray⟩) ∧ Below V.heap.size V w') := fun V hb => by
      have hn := narrow_steps h hr
      exact (writeExpr_any K q c l V (ListIs.later mStp hn hK hb) (fun b hb' => Nat.lt_of_lt_of_le (hK b hb') hb.size) (hG.gw.below hb) (hG.g2.below hb) hr).mono fun e w' h => ⟨h.1.1, h.2⟩
    rw [show showE l = (exprP l, 0) by unfold showE; rw [if_pos hr]]
    rw [hr] at C0
    obtain ⟨E, hE⟩ : ∃ E : ByteArray, (⟨(exprP l).toArray⟩ : ByteArray) = E := ⟨_, rfl⟩
    rw [hE] at C1
    simp only [hE]
    obtain ⟨N, hN⟩ : ∃ N, l.length = N := ⟨_, rfl⟩
    rw [hN] at C0 C1 ⊢
    clear h hK hr hN hE hG
    go_enter Tryz.func6, Tryz.ntmps6
    go_wp2_with fail
    refine C0.out.mono ?_
    rintro e w0 ⟨rfl, hb0⟩
    have HB0 := hid hb0
    have C2 := hid (C1.out w0 hb0)
    clear C0 C1 hb0
    go_wp2_with fail
    refine C2.out.mono ?_
    rintro e w1 ⟨rfl, hb1⟩
    have HB1 : Hid (Below w.heap.size w w1) := HB0.out.trans (hb1.mono HB0.out.size)
    clear C2 HB0 hb1
    go_wp2_with fail
    go_ret2
    exact ⟨rfl, HB1.out⟩
  | false =>
    rw [show showE l = ([], 13) by unfold showE; rw [if_neg (by simp [hr])]]
    rw [hr] at C0
    obtain ⟨N, hN⟩ : ∃ N, l.length = N := ⟨_, rfl⟩
    rw [hN] at C0 ⊢
    clear h hK hr hN hG
    go_enter Tryz.func6, Tryz.ntmps6
    go_wp2_with fail
    refine C0.out.mono ?_
    rintro e w0 ⟨rfl, hb0⟩
    have HB0 := hid hb0
    clear C0 hb0
    go_wp2_with fail
    go_ret2
    exact ⟨rfl, HB0.out⟩
end Go.Proofs.YtnmmojhbcnlboaaGreatDoor.Rf
/- What the reference's Print writes: what Print writes. -/
namespace Go.Proofs.YtnmmojhbcnlboaaGreatDoor.Rf
open Go.Shelf Go.RowKit Go.Lib Go.Sort
set_option linter.unusedVariables false
set_option linter.unusedSimpArgs false
attribute [local go_sem ↓] Go.wp_at_zero Go.wp_at_succ
theorem size_data (s : ByteArray) : s.data.toList.length = s.size := by simp
theorem partsL_none : partsL [] = [] := rfl
theorem get_text (q : Qry) : queryTextP q = frontP q ++ partsL (joinL q) ++ partsL (whereL q) ++ partsL (groupL q) ++ partsL (getL q) ++ [41] := by
  unfold queryTextP
  rw [show [q.t] ++ joinL q ++ whereL q ++ groupL q ++ getL q = [q.t] ++ (joinL q ++ whereL q ++ groupL q ++ getL q) by simp, text_front, partsL_app, partsL_app, partsL_app]
  simp
theorem app_size (a b c : ByteArray) (h : a ++ b = c) : c.size = a.size + b.size := by rw [← h, ByteArray.size_append]
theorem app_data (a b c : ByteArray) (h : a ++ b = c) : c.data.toList = a.data.toList ++ b.data.toList := by rw [← h, app_list2]
theorem cnt_text : bracketsP (aggTextP 1) [] = [40, 99, 111, 117, 110, 116, 41] := by kernel_rfl
set_option maxRecDepth 100000 in
set_option maxHeartbeats 16000000 in
theorem printR_any (K : Nat → Prop) (pi pw pg : Option Addr) (ci cw cg : Nat) (q : Qry) (w : World) (h : QLsW K w pi pw pg ci cw cg q) (hK : ∀ b, K b → b < w.heap.size) : Calls Tryz.prog 5 #[.agg (q.cl (.slice pi q.i.length ci) (.slice pw q.w.length cw) (.slice pg q.g.length cg))] w fun e w' => e = .returned (.tuple #[.string ⟨(printP q).1.toArray⟩, .int .i64 (printP q).2]) ∧ Below w.heap.size w w' := by
  obtain ⟨s0, hs0⟩ : ∃ s : ByteArray, (⟨q.t.toArray⟩ : ByteArray) = s := ⟨_, rfl⟩
  obtain ⟨s1, hs1⟩ : ∃ s : ByteArray, (⟨q.j.toArray⟩ : ByteArray) = s := ⟨_, rfl⟩
  obtain ⟨s2, hs2⟩ : ∃ s : ByteArray, (⟨q.a.toArray⟩ : ByteArray) = s := ⟨_, rfl⟩
  obtain ⟨s3, hs3⟩ : ∃ s : ByteArray, (⟨q.b.toArray⟩ : ByteArray) = s := ⟨_, rfl⟩
  obtain ⟨ni, hni⟩ : ∃ n, q.i.length = n := ⟨_, rfl⟩
  obtain ⟨nw, hnw⟩ : ∃ n, q.w.length = n := ⟨_, rfl⟩
  obtain ⟨ng, hng⟩ : ∃ n, q.g.length = n := ⟨_, rfl⟩
  have hcl : q.cl (.slice pi q.i.length ci) (.slice pw q.w.length cw) (.slice pg q.g.length cg) = #[.slice pi ni ci, .string s0, .string s1, .string s2, .string s3, .slice pw nw cw, .slice pg ng cg] := by unfold Qry.cl; rw [hs0, hs1, hs2, hs3, hni, hnw, hng]
  have HS : Hid (s0.data.toList = q.t ∧ s1.data.toList = q.j ∧ s2.data.toList = q.a ∧ s3.data.toList = q.b) := ⟨by rw [← hs0], by rw [← hs1], by rw [← hs2], by rw [← hs3]⟩
  have HN : Hid (q.i.length = ni ∧ q.w.length = nw ∧ q.g.length = ng) := ⟨hni, hnw, hng⟩
  obtain ⟨W0, hW0⟩ : ∃ W0, w.alloc (.cells #[.slice pi ni ci, .string s0, .string s1, .string s2, .string s3, .slice pw nw cw, .slice pg ng cg] 26) = W0 := ⟨_, rfl⟩
  have hb0 : Below w.heap.size w W0 := by rw [← hW0]; exact below_alloc _ _
  have hg0 : W0.heap[w.heap.size]? = some (.cells #[.slice pi ni ci, .string s0, .string s1, .string s2, .string s3, .slice pw nw cw, .slice pg ng cg] 26 (0, 0)) := by rw [← hW0]; exact heap_alloc_new w _
  have HQ := hid (h.below hK hb0)
  have HK0 : Hid (∀ b, K b → b < W0.heap.size) := fun b hb => Nat.lt_of_lt_of_le (hK b hb) hb0.size
  have HB := hid hb0
  have hl0 : w.heap.size < W0.heap.size := (Array.getElem?_eq_some_iff.1 hg0).1
  have HL : Hid (∀ V, Below W0.heap.size W0 V → V.cell? ⟨w.heap.size, 0, none⟩ = some (.slice pi ni ci) ∧ V.cell? ⟨w.heap.size, 1, none⟩ = some (.string s0) ∧ V.cell? ⟨w.heap.size, 2, none⟩ = some (.string s1) ∧ V.cell? ⟨w.heap.size, 3, none⟩ = some (.string s2) ∧ V.cell? ⟨w.heap.size, 4, none⟩ = some (.string s3) ∧ V.cell? ⟨w.heap.size, 5, none⟩ = some (.slice pw nw cw) ∧ V.cell? ⟨w.heap.size, 6, none⟩ = some (.slice pg ng cg) ∧ Below w.heap.size w V) := fun V hb => by
    have hg := (hb.block _ hl0).trans hg0
    exact ⟨cell_of_row hg rfl, cell_of_row hg rfl, cell_of_row hg rfl, cell_of_row hg rfl, cell_of_row hg rfl, cell_of_row hg rfl, cell_of_row hg rfl, hb0.trans (hb.mono hb0.size)⟩
  have HR0 : Hid (W0.rangeAt w.heap.size 0 [.slice pi ni ci, .string s0, .string s1, .string s2, .string s3, .slice pw nw cw, .slice pg ng cg]) := fun j u hu => by rw [Nat.zero_add]; exact cell_of_row hg0 (by simpa using hu)
  have hqc : q.cl (.slice pi q.i.length ci) (.slice pw q.w.length cw) (.slice pg q.g.length cg) = #[.slice pi ni ci, .string s0, .string s1, .string s2, .string s3, .slice pw nw cw, .slice pg ng cg] := hcl
  obtain ⟨cq, hcq⟩ : ∃ cq, checkQ q = cq := ⟨_, rfl⟩
  have C0 : Hid (Calls Tryz.prog 12 #[.agg #[.slice pi ni ci, .string s0, .string s1, .string s2, .string s3, .slice pw nw cw, .slice pg ng cg]] W0 fun e w' => e = .returned (.int .i64 cq) ∧ Below W0.heap.size W0 w') := by have := checkR_any K pi pw pg ci cw cg q W0 HQ.out HK0.out; rw [hqc, hcq] at this; exact this
  rw [hcl]
  by_cases hc0 : cq = 0
  · have yc : (cq != 0) = false := by simp [hc0]
    have hok : queryOkP q = true := by
      cases hq : queryOkP q with
      | true => rfl
      | false => rw [hc0] at hcq; unfold checkQ at hcq; rw [hq] at hcq; cases hcq
    have HP : Hid (printP q = (queryTextP q, 0)) := by show _ = _; unfold printP; rw [hcq, if_neg (by simpa using hc0)]
    have hnar := HQ.out.narrow hok
    obtain ⟨l1, l2, l3, l4, l5, l6, l7⟩ := right_parts hok
    have hSZ : Hid (s0.size ≤ 64 ∧ s1.size ≤ 64 ∧ s2.size ≤ 129 ∧ s3.size ≤ 129) := by
      refine ⟨?_, ?_, ?_, ?_⟩
      · rw [← size_data, HS.out.1]; exact l1
      · rw [← size_data, HS.out.2.1]; exact l2
      · rw [← size_data, HS.out.2.2.1]; exact l3
      · rw [← size_data, HS.out.2.2.2]; exact l4
    have HG5 : Hid (∀ x ∈ q.g, x.length ≤ 129) := l5
    have hok2 := hok
    unfold queryOkP at hok2
    simp only [Bool.and_eq_true] at hok2
    obtain ⟨_, _, hwo, hio, hgo⟩ := hok2
    have HW : Hid (q.w = [] ∨ rightP q.w = true) := l6
    have HI : Hid (q.i.length ≤ 8 ∧ ∀ x ∈ q.i, itemOkP x = true) := by
      show _ ∧ _
      unfold itemsOkP at hio
      split at hio
      · cases hio
      · exact ⟨by omega, List.all_eq_true.1 hio⟩
    have HGR : Hid (q.g.length ≤ 8) := by
      show _ ≤ _
      unfold groupOkP at hgo
      split at hgo
      · cases hgo
      · omega
    rw [show (printP q).1 = queryTextP q by rw [HP.out], show (printP q).2 = 0 by rw [HP.out]]
    clear h hK hb0 hg0 hl0 hs0 hs1 hs2 hs3 hni hnw hng hcl hqc hwo hio hgo hcq HP hnar l1 l2 l3 l4 l5 l6 l7 hok hc0
    have HLW : Hid (∀ V, Below W0.heap.size W0 V → QLsW K V pi pw pg ci cw cg q ∧ (∀ b, K b → b < V.heap.size)) := fun V hb => ⟨HQ.out.below HK0.out hb, fun b h => Nat.lt_of_lt_of_le (HK0.out b h) hb.size⟩
    obtain ⟨x1, hx1⟩ : ∃ S, (⟨#[40, 102, 114, 111, 109, 32]⟩ : ByteArray) ++ s0 = S := ⟨_, rfl⟩
    have p1 : ¬ 9223372036854775807 < 6 + s0.size := by have := hSZ.out.1; omega
    have HA : Hid (x1.data.toList = frontP q) := by
      show _ = _
      rw [app_data _ _ _ hx1, HS.out.1]
      simp [frontP, partsL, fromP]
    have HZ : Hid (x1.size ≤ 1000) := by
      have h1 := app_size _ _ _ hx1
      have h2 : (⟨#[40, 102, 114, 111, 109, 32]⟩ : ByteArray).size = 6 := rfl
      have h3 := hSZ.out.1
      show _ ≤ _
      omega
    go_enter Tryz.func5, Tryz.ntmps5
    go_wp2_with (refine wpList_load_mid rfl 26 _ rfl w.heap.size 0 rfl _ _ HR0.out Tryz.underlying26 rfl sz_qry ?_)
    refine C0.out.mono ?_
    rintro e w1 ⟨rfl, hb1⟩
    obtain ⟨-, d1, d2, -, -, -, -, -⟩ := HL.out w1 hb1
    have HBX := hid hb1
    clear C0 hb1 HR0 hW0
    go_upto_if 24 with fail
    clear d1 d2
    go_cut [5] (fun s5 wx => ∃ (acc : ByteArray), s5 = .string acc ∧ Hid (Below W0.heap.size W0 wx) ∧ Hid (acc.data.toList = frontP q ++ partsL (joinL q)) ∧ Hid (acc.size ≤ 2000))
    case first =>
      obtain ⟨-, -, e2c, e3c, e4c, -, -, -⟩ := HL.out w1 HBX.out
      by_cases hj : q.j = []
      · have t5 : s1.toList.isEmpty = true := by rw [Lib.toList_data, HS.out.2.1, hj]; rfl
        have HEQ : Hid (x1.data.toList = frontP q ++ partsL (joinL q)) := by show _ = _; rw [HA.out]; unfold joinL; rw [if_pos hj, partsL_none, List.append_nil]
        clear hj
        simp only [t5, Bool.not_true, Bool.not_false]
        go_wp2_with fail
        go_meet
        case rel => exact ⟨_, rfl, HBX, HEQ, by show _ ≤ _; have := HZ.out; omega⟩
      · have t5 : s1.toList.isEmpty = false := by rw [Lib.toList_data, HS.out.2.1]; cases hh : q.j with | nil => exact absurd hh hj | cons _ _ => rfl
        obtain ⟨y1, hy1⟩ : ∃ S, (⟨#[32, 40, 106, 111, 105, 110, 32]⟩ : ByteArray) ++ s1 = S := ⟨_, rfl⟩
        obtain ⟨y2, hy2⟩ : ∃ S, y1 ++ (⟨#[32]⟩ : ByteArray) = S := ⟨_, rfl⟩
        obtain ⟨y3, hy3⟩ : ∃ S, y2 ++ s2 = S := ⟨_, rfl⟩
        obtain ⟨y4, hy4⟩ : ∃ S, y3 ++ (⟨#[32]⟩ : ByteArray) = S := ⟨_, rfl⟩
        obtain ⟨y5, hy5⟩ : ∃ S, y4 ++ s3 = S := ⟨_, rfl⟩
        obtain ⟨y6, hy6⟩ : ∃ S, y5 ++ (⟨#[41]⟩ : ByteArray) = S := ⟨_, rfl⟩
        obtain ⟨y7, hy7⟩ : ∃ S, x1 ++ y6 = S := ⟨_, rfl⟩
        obtain ⟨z1, z2, z3, z4⟩ := hSZ.out
        have z0 := HZ.out
        have o1 : (⟨#[32]⟩ : ByteArray).size = 1 := rfl
        have o2 : (⟨#[41]⟩ : ByteArray).size = 1 := rfl
        have o3 : (⟨#[32, 40, 106, 111, 105, 110, 32]⟩ : ByteArray).size = 7 := rfl
        have u1 := app_size _ _ _ hy1
        have u2 := app_size _ _ _ hy2
        have u3 := app_size _ _ _ hy3
        have u4 := app_size _ _ _ hy4
        have u5 := app_size _ _ _ hy5
        have u6 := app_size _ _ _ hy6
        have u7 := app_size _ _ _ hy7
        have r1 : ¬ 9223372036854775807 < 7 + s1.size := by omega
        have r2 : ¬ 9223372036854775807 < y1.size + 1 := by omega
        have r3 : ¬ 9223372036854775807 < y2.size + s2.size := by omega
        have r4 : ¬ 9223372036854775807 < y3.size + 1 := by omega
        have r5 : ¬ 9223372036854775807 < y4.size + s3.size := by omega
        have r6 : ¬ 9223372036854775807 < y5.size + 1 := by omega
        have r7 : ¬ 9223372036854775807 < x1.size + y6.size := by omega
        have HZ7 : Hid (y7.size ≤ 2000) := by show _ ≤ _; omega
        have HEQ : Hid (y7.data.toList = frontP q ++ partsL (joinL q)) := by
          show _ = _
          rw [app_data _ _ _ hy7, app_data _ _ _ hy6, app_data _ _ _ hy5, app_data _ _ _ hy4, app_data _ _ _ hy3, app_data _ _ _ hy2, app_data _ _ _ hy1, HA.out, HS.out.2.1, HS.out.2.2.1, HS.out.2.2.2]
          unfold joinL
          rw [if_neg hj]
          simp [partsL, bracketsP, show wordP 0 = [106, 111, 105, 110] from rfl]
        clear hj HA z1 z2 z3 z4 z0 o1 o2 o3 u1 u2 u3 u4 u5 u6 u7 hx1 p1
        simp only [t5, Bool.not_true, Bool.not_false]
        go_wp2_with fail
        go_meet
        case rel => exact ⟨y7, rfl, HBX, HEQ, HZ7⟩
    case rest =>
      clear HBX HA HZ hx1 p1
      obtain ⟨acc, rfl, HBX, HA, HZ⟩ := hcut
      obtain ⟨-, -, -, -, -, f5c, -, -⟩ := HL.out wc HBX.out
      go_upto_if 42 with fail
      clear f5c
      go_cut [5] (fun s5 wx => ∃ (acc : ByteArray), s5 = .string acc ∧ Hid (Below W0.heap.size W0 wx) ∧ Hid (acc.data.toList = frontP q ++ partsL (joinL q) ++ partsL (whereL q)) ∧ Hid (acc.size ≤ 20003000))
      case first =>
        obtain ⟨-, -, -, -, -, e5c, -, -⟩ := HL.out wc HBX.out
        have hz := len_zero q.w
        rw [HN.out.2.1] at hz
        by_cases hj : nw = 0
        · have t1 : ¬ (0 : Int) < (nw : Int) := by omega
          have t2 : decide (0 < nw) = false := decide_eq_false (by omega)
          have HEQ : Hid (acc.data.toList = frontP q ++ partsL (joinL q) ++ partsL (whereL q)) := by show _ = _; rw [HA.out]; unfold whereL; rw [if_pos (hz.1 hj), partsL_none, List.append_nil]
          clear hz hj
          go_wp2_with fail
          go_meet
          case rel => exact ⟨_, rfl, HBX, HEQ, by show _ ≤ _; have := HZ.out; omega⟩
        · have t1 : (0 : Int) < (nw : Int) := by omega
          have t2 : decide (0 < nw) = true := decide_eq_true (by omega)
          have hne : q.w ≠ [] := fun h => hj (hz.2 h)
          have hrp : rightP q.w = true := by rcases HW.out with h | h; exact absurd h hne; exact h
          obtain ⟨hq5, hk5⟩ := HLW.out wc HBX.out
          obtain ⟨SE, hSE⟩ : ∃ S : ByteArray, (⟨(exprP q.w).toArray⟩ : ByteArray) = S := ⟨_, rfl⟩
          have HE : Hid (SE.data.toList = exprP q.w) := by show _ = _; rw [← hSE]
          have C : Hid (Calls Tryz.prog 7 #[.slice pw nw cw] wc fun e w' => (e = .returned (.tuple #[.string SE, .int .i64 0]) ∧ (exprP q.w).length ≤ 20000000) ∧ Below wc.heap.size wc w') := by
            have := showR_any K pw cw q.w wc hq5.lw hk5
            rw [HN.out.2.1, show showE q.w = (exprP q.w, 0) by unfold showE; rw [if_pos hrp]] at this
            simp only [hSE] at this
            exact this
          have HWH : Hid (whereL q = [bracketsP (wordP 1) [exprP q.w]]) := by show _ = _; unfold whereL; rw [if_neg hne]
          clear hz hne hrp hSE hq5 hk5 hj
          go_wp2_with fail
          refine C.out.mono ?_
          rintro e w4 ⟨⟨rfl, hlen⟩, hb4⟩
          have HB4 : Hid (Below W0.heap.size W0 w4) := HBX.out.trans (hb4.mono HBX.out.size)
          obtain ⟨y1, hy1⟩ : ∃ S, (⟨#[32, 40, 119, 104, 101, 114, 101, 32]⟩ : ByteArray) ++ SE = S := ⟨_, rfl⟩
          obtain ⟨y2, hy2⟩ : ∃ S, y1 ++ (⟨#[41]⟩ : ByteArray) = S := ⟨_, rfl⟩
          obtain ⟨y3, hy3⟩ : ∃ S, acc ++ y2 = S := ⟨_, rfl⟩
          have z0 := HZ.out
          have z1 : SE.size ≤ 20000000 := by rw [← size_data, HE.out]; exact hlen
          have o1 : (⟨#[41]⟩ : ByteArray).size = 1 := rfl
          have o2 : (⟨#[32, 40, 119, 104, 101, 114, 101, 32]⟩ : ByteArray).size = 8 := rfl
          have u1 := app_size _ _ _ hy1
          have u2 := app_size _ _ _ hy2
          have u3 := app_size _ _ _ hy3
          have r1 : ¬ 9223372036854775807 < 8 + SE.size := by omega
          have r2 : ¬ 9223372036854775807 < y1.size + 1 := by omega
          have r3 : ¬ 9223372036854775807 < acc.size + y2.size := by omega
          have HZ7 : Hid (y3.size ≤ 20003000) := by show _ ≤ _; omega
          have HEQ : Hid (y3.data.toList = frontP q ++ partsL (joinL q) ++ partsL (whereL q)) := by
            show _ = _
            rw [app_data _ _ _ hy3, app_data _ _ _ hy2, app_data _ _ _ hy1, HA.out, HE.out, HWH.out]
            simp [partsL, bracketsP, show wordP 1 = [119, 104, 101, 114, 101] from rfl]
          clear C hlen hb4 HBX HA HZ z0 z1 o1 o2 u1 u2 u3 HWH HE e5c
          go_wp2_with fail
          go_meet
          case rel => exact ⟨y3, rfl, HB4, HEQ, HZ7⟩
      case rest =>
        clear HBX HA HZ
        obtain ⟨acc, rfl, HBX, HA, HZ⟩ := hcut
        obtain ⟨-, -, -, -, -, -, f6c, -⟩ := HL.out wc HBX.out
        go_upto_if 57 with fail
        clear f6c
        go_cut [5] (fun s5 wx => ∃ (acc : ByteArray), s5 = .string acc ∧ Hid (Below W0.heap.size W0 wx) ∧ Hid (acc.data.toList = frontP q ++ partsL (joinL q) ++ partsL (whereL q) ++ partsL (groupL q)) ∧ Hid (acc.size ≤ 20006000))
        case first =>
          obtain ⟨-, -, -, -, -, -, e6c, -⟩ := HL.out wc HBX.out
          have hz := len_zero q.g
          rw [HN.out.2.2] at hz
          by_cases hj : ng = 0
          · have t1 : ¬ (0 : Int) < (ng : Int) := by omega
            have t2 : decide (0 < ng) = false := decide_eq_false (by omega)
            have HEQ : Hid (acc.data.toList = frontP q ++ partsL (joinL q) ++ partsL (whereL q) ++ partsL (groupL q)) := by show _ = _; rw [HA.out]; unfold groupL; rw [if_pos (hz.1 hj), partsL_none, List.append_nil]
            clear hz hj
            go_wp2_with fail
            go_meet
            case rel => exact ⟨_, rfl, HBX, HEQ, by show _ ≤ _; have := HZ.out; omega⟩
          · have t1 : (0 : Int) < (ng : Int) := by omega
            have t2 : decide (0 < ng) = true := decide_eq_true (by omega)
            have hne : q.g ≠ [] := fun h => hj (hz.2 h)
            have HGL : Hid (groupL q = [bracketsP (wordP 2) q.g]) := by show _ = _; unfold groupL; rw [if_neg hne]
            have hng8 : ng ≤ 8 := by have h1 := HGR.out; have h2 := HN.out.2.2; omega
            obtain ⟨y1, hy1⟩ : ∃ S, acc ++ (⟨#[32, 40, 103, 114, 111, 117, 112]⟩ : ByteArray) = S := ⟨_, rfl⟩
            have u1 := app_size _ _ _ hy1
            have o1 : (⟨#[32, 40, 103, 114, 111, 117, 112]⟩ : ByteArray).size = 7 := rfl
            have z0 := HZ.out
            have r1 : ¬ 9223372036854775807 < acc.size + 7 := by omega
            have HY : Hid (y1.data.toList = frontP q ++ partsL (joinL q) ++ partsL (whereL q) ++ (32 :: 40 :: wordP 2)) := by
              show _ = _
              rw [app_data _ _ _ hy1, HA.out]
              simp [show wordP 2 = [103, 114, 111, 117, 112] from rfl]
            have HYS : Hid (y1.size ≤ 20003100) := by show _ ≤ _; omega
            clear hz hne hj u1 o1 z0 HA HZ
            go_wp2_with fail
            go_loopg [5, 63] ng (fun gf s5 s63 wx => ∃ (i : Nat) (a : ByteArray), s5 = .string a ∧ s63 = .int .i64 i ∧ i ≤ ng ∧ ng ≤ i + gf ∧ Hid (Below W0.heap.size W0 wx) ∧ Hid (a.data.toList = frontP q ++ partsL (joinL q) ++ partsL (whereL q) ++ (32 :: 40 :: wordP 2) ++ partsL (q.g.take i)) ∧ Hid (a.size ≤ 20003100 + i * 200))
            case atStart => exact ⟨0, y1, rfl, rfl, by omega, by omega, HBX, by show _ = _; rw [HY.out]; simp [partsL], by show _ ≤ _; have := HYS.out; omega⟩
            case round =>
              clear HY HYS HBX e6c hy1 r1
              obtain ⟨i, a, rfl, rfl, hi1, hgf, HBX, HAC, HAS⟩ := hrel
              by_cases hi : i < ng
              · obtain ⟨g', rfl⟩ : ∃ g', gk = g' + 1 := ⟨gk - 1, by omega⟩
                have hkq : i < q.g.length := by rw [HN.out.2.2]; exact hi
                obtain ⟨bb, o, hq, _, hc⟩ := str_w (HLW.out wr HBX.out).1.lg (by omega)
                subst hq
                have hcell := hc i hkq
                have htk : q.g.take (i + 1) = q.g.take i ++ [q.g[i]] := by rw [List.take_add_one, List.getElem?_eq_getElem hkq]; rfl
                have hlen := HG5.out _ (List.getElem_mem hkq)
                obtain ⟨y, hy⟩ : ∃ y, q.g[i] = y := ⟨_, rfl⟩
                rw [hy] at hcell htk hlen
                obtain ⟨PS, hPS⟩ : ∃ S : ByteArray, (⟨y.toArray⟩ : ByteArray) = S := ⟨_, rfl⟩
                rw [hPS] at hcell
                have hPl : PS.data.toList = y := by rw [← hPS]
                have hPs : PS.size = y.length := by rw [← hPl]; simp
                obtain ⟨x1, hx1⟩ : ∃ S, (⟨#[32]⟩ : ByteArray) ++ PS = S := ⟨_, rfl⟩
                obtain ⟨x2, hx2⟩ : ∃ S, a ++ x1 = S := ⟨_, rfl⟩
                have u1 := app_size _ _ _ hx1
                have u2 := app_size _ _ _ hx2
                have o1 : (⟨#[32]⟩ : ByteArray).size = 1 := rfl
                have z0 := HAS.out
                have p1 : ¬ 9223372036854775807 < 1 + PS.size := by omega
                have p2 : ¬ 9223372036854775807 < a.size + x1.size := by omega
                have HAC2 : Hid (x2.data.toList = frontP q ++ partsL (joinL q) ++ partsL (whereL q) ++ (32 :: 40 :: wordP 2) ++ partsL (q.g.take (i + 1))) := by
                  show _ = _
                  rw [app_data _ _ _ hx2, app_data _ _ _ hx1, HAC.out, hPl, htk, partsL_app]
                  simp [partsL]
                have HAS2 : Hid (x2.size ≤ 20003100 + (i + 1) * 200) := by show _ ≤ _; omega
                have z4 : (0 : Int) ≤ (i : Int) := by omega
                have z5 : (i : Int) < (ng : Int) := by omega
                clear hc htk hlen hy hPS hPl hPs u1 u2 o1 z0 HAC HAS hkq
                go_wp2_with fail
                go_roundg g'
                case measure => omega
                case rel => exact ⟨i + 1, x2, rfl, by go_num, by omega, by omega, HBX, HAC2, HAS2⟩
              · have z5 : ¬ (i : Int) < (ng : Int) := by omega
                have z0 := HAS.out
                have hall : q.g.take i = q.g := List.take_of_length_le (by rw [HN.out.2.2]; omega)
                obtain ⟨x2, hx2⟩ : ∃ S, a ++ (⟨#[41]⟩ : ByteArray) = S := ⟨_, rfl⟩
                have u2 := app_size _ _ _ hx2
                have o1 : (⟨#[41]⟩ : ByteArray).size = 1 := rfl
                have p2 : ¬ 9223372036854775807 < a.size + 1 := by omega
                have HEQ : Hid (x2.data.toList = frontP q ++ partsL (joinL q) ++ partsL (whereL q) ++ partsL (groupL q)) := by
                  show _ = _
                  rw [app_data _ _ _ hx2, HAC.out, hall, HGL.out]
                  simp [partsL, bracketsP]
                have HZ7 : Hid (x2.size ≤ 20006000) := by show _ ≤ _; omega
                clear z0 hall u2 o1 HAC HAS HGL
                go_wp2_with fail
                go_meet
                case rel => exact ⟨x2, rfl, HBX, HEQ, HZ7⟩
        case rest =>
          clear HBX HA HZ
          obtain ⟨acc, rfl, HBX, HA, HZ⟩ := hcut
          obtain ⟨f0c, -, -, -, -, -, -, -⟩ := HL.out wc HBX.out
          go_upto_if 77 with fail
          clear f0c
          go_cut [5] (fun s5 wx => ∃ (acc : ByteArray), s5 = .string acc ∧ Hid (Below W0.heap.size W0 wx) ∧ Hid (acc.data.toList = frontP q ++ partsL (joinL q) ++ partsL (whereL q) ++ partsL (groupL q) ++ partsL (getL q)) ∧ Hid (acc.size ≤ 300000000))
          case first =>
            obtain ⟨e0c, -, -, -, -, -, -, -⟩ := HL.out wc HBX.out
            have hz := len_zero q.i
            rw [HN.out.1] at hz
            by_cases hj : ni = 0
            · have t1 : ¬ (0 : Int) < (ni : Int) := by omega
              have t2 : decide (0 < ni) = false := decide_eq_false (by omega)
              have HEQ : Hid (acc.data.toList = frontP q ++ partsL (joinL q) ++ partsL (whereL q) ++ partsL (groupL q) ++ partsL (getL q)) := by show _ = _; rw [HA.out]; unfold getL; rw [if_pos (hz.1 hj), partsL_none, List.append_nil]
              clear hz hj
              go_wp2_with fail
              go_meet
              case rel => exact ⟨_, rfl, HBX, HEQ, by show _ ≤ _; have := HZ.out; omega⟩
            · have t1 : (0 : Int) < (ni : Int) := by omega
              have t2 : decide (0 < ni) = true := decide_eq_true (by omega)
              have hne : q.i ≠ [] := fun h => hj (hz.2 h)
              have HGL : Hid (getL q = [bracketsP (wordP 3) (q.i.map writeItemP)]) := by show _ = _; unfold getL; rw [if_neg hne]
              have hni8 : ni ≤ 8 := by have h1 := HI.out.1; have h2 := HN.out.1; omega
              obtain ⟨y1, hy1⟩ : ∃ S, acc ++ (⟨#[32, 40, 103, 101, 116]⟩ : ByteArray) = S := ⟨_, rfl⟩
              have u1 := app_size _ _ _ hy1
              have o1 : (⟨#[32, 40, 103, 101, 116]⟩ : ByteArray).size = 5 := rfl
              have z0 := HZ.out
              have r1 : ¬ 9223372036854775807 < acc.size + 5 := by omega
              have HY : Hid (y1.data.toList = frontP q ++ partsL (joinL q) ++ partsL (whereL q) ++ partsL (groupL q) ++ (32 :: 40 :: wordP 3)) := by
                show _ = _
                rw [app_data _ _ _ hy1, HA.out]
                simp [show wordP 3 = [103, 101, 116] from rfl]
              have HYS : Hid (y1.size ≤ 20006100) := by show _ ≤ _; omega
              clear hz hne hj u1 o1 z0 HA HZ
              simp only [t2]
              go_wp2_with fail
              go_loopg [5, 83] ni (fun gf s5 s83 wx => ∃ (i : Nat) (a : ByteArray), s5 = .string a ∧ s83 = .int .i64 i ∧ i ≤ ni ∧ ni ≤ i + gf ∧ Hid (Below W0.heap.size W0 wx) ∧ Hid (a.data.toList = frontP q ++ partsL (joinL q) ++ partsL (whereL q) ++ partsL (groupL q) ++ (32 :: 40 :: wordP 3) ++ partsL ((q.i.take i).map writeItemP)) ∧ Hid (a.size ≤ 20006100 + i * 20001000))
              case atStart => exact ⟨0, y1, rfl, rfl, by omega, by omega, HBX, by show _ = _; rw [HY.out]; simp [partsL], by show _ ≤ _; have := HYS.out; omega⟩
              case round =>
                clear HY HYS HBX e0c hy1 r1 t1 t2
                obtain ⟨i, a, rfl, rfl, hi1, hgf, HBX, HAC, HAS⟩ := hrel
                by_cases hi : i < ni
                · obtain ⟨g', rfl⟩ : ∃ g', gk = g' + 1 := ⟨gk - 1, by omega⟩
                  have hiq : i < q.i.length := by rw [HN.out.1]; exact hi
                  obtain ⟨hqW, hKW⟩ := HLW.out wr HBX.out
                  obtain ⟨bb, o, hq, _, hc⟩ := itm_w hqW.li (by omega)
                  subst hq
                  obtain ⟨p, cp, hrg, hli, h256⟩ := hc i hiq
                  have hbig : q.i[i].e.length ≤ 140737488355328 := by
                    obtain ⟨q', c', -, ⟨hb, -⟩, -⟩ := hli
                    omega
                  have htk : q.i.take (i + 1) = q.i.take i ++ [q.i[i]] := by rw [List.take_add_one, List.getElem?_eq_getElem hiq]; rfl
                  have hokI := HI.out.2 _ (List.getElem_mem hiq)
                  obtain ⟨y, hy⟩ : ∃ y, q.i[i] = y := ⟨_, rfl⟩
                  rw [hy] at hrg hli h256 htk hbig hokI
                  obtain ⟨gi, hgi⟩ : ∃ gi : Nat, y.g = gi := ⟨_, rfl⟩
                  obtain ⟨m, hm⟩ : ∃ m, y.e.length = m := ⟨_, rfl⟩
                  rw [hgi, hm] at hrg
                  have HRG := hid hrg
                  obtain ⟨WA, hWA, hth, W1, hW1, hg1, hb1⟩ := box_two wr 45 (.int .u8 0) (.slice none 0 0) (.int .u8 (gi : Int)) (.slice p m cp)
                  have HTH := hid hth
                  have HW1 := hid hW1
                  have HON : Hid ((#[.int .u8 (gi : Int), .slice p m cp] : Array Value).all (·.oneCell') = true) := by show _ = _; simp [Value.oneCell']
                  have hbx := HBX.out
                  have hbX : Below W0.heap.size W0 W1 := hbx.trans (hb1.mono hbx.size)
                  have hl1 : wr.heap.size < W1.heap.size := (Array.getElem?_eq_some_iff.1 hg1).1
                  have HJ : Hid (∀ V, Below W1.heap.size W1 V → V.cell? ⟨wr.heap.size, 0, none⟩ = some (.int .u8 (gi : Int)) ∧ V.cell? ⟨wr.heap.size, 1, none⟩ = some (.slice p m cp)) := fun V hb => by
                    have hg := (hb.block _ hl1).trans hg1
                    exact ⟨cell_of_row (k := 0) hg rfl, cell_of_row (k := 1) hg rfl⟩
                  have j1 := (HJ.out W1 (Below.refl _ _)).2
                  obtain ⟨SE, hSE⟩ : ∃ S : ByteArray, (⟨(showE y.e).1.toArray⟩ : ByteArray) = S := ⟨_, rfl⟩
                  have HE : Hid (SE.data.toList = (showE y.e).1) := by show _ = _; rw [← hSE]
                  obtain ⟨er, her⟩ : ∃ r, (showE y.e).2 = r := ⟨_, rfl⟩
                  have C : Hid (Calls Tryz.prog 7 #[.slice p m cp] W1 fun e w' => (e = .returned (.tuple #[.string SE, .int .i64 er]) ∧ (showE y.e).1.length ≤ 20000000) ∧ Below W1.heap.size W1 w') := by
                    have := showR_any K p cp y.e W1 (hli.mono mStpW (fun _ h => h) (kept_of hKW hb1)) (fun b hb => Nat.lt_of_lt_of_le (hKW b hb) hb1.size)
                    rw [hm, hSE, her] at this
                    exact this
                  have HIW : Hid (writeItemP y = if gi = 0 then exprP y.e else if gi = 1 then [40, 99, 111, 117, 110, 116, 41] else bracketsP (aggTextP gi) [exprP y.e]) := by show _ = _; unfold writeItemP; rw [hgi, cnt_text]
                  have HIE : Hid (gi ≠ 1 → gi < 5 ∧ showE y.e = (exprP y.e, 0)) := fun h1 => by
                    unfold itemOkP at hokI
                    rw [hgi, if_neg h1] at hokI
                    simp only [Bool.and_eq_true, decide_eq_true_eq] at hokI
                    exact ⟨hokI.1, by unfold showE; rw [if_pos hokI.2]⟩
                  have HNX : Hid (∀ (a2 : ByteArray) (x : List UInt8), a2.data.toList = a.data.toList ++ 32 :: writeItemP y → a2.data.toList = frontP q ++ partsL (joinL q) ++ partsL (whereL q) ++ partsL (groupL q) ++ (32 :: 40 :: wordP 3) ++ partsL ((q.i.take (i + 1)).map writeItemP)) := fun a2 x h => by
                    rw [h, HAC.out, htk, List.map_append, partsL_app]
                    simp [partsL]
                  have HBX1 := hid hbX
                  have z0 : (0 : Int) ≤ (i : Int) := by omega
                  have z1 : (i : Int) < (ni : Int) := by omega
                  have mb : m ≤ 140737488355328 := by omega
                  clear hc hrg hli h256 hy hgi hm hth hW1 hg1 hb1 hbx hbX hKW hqW HBX hiq htk hbig hokI hl1 hSE her HAC
                  go_wp2_with (first | (refine wpList_load_mid rfl 45 _ rfl bb (o + i * 2) rfl _ _ HRG.out Tryz.underlying45 rfl sz_item ?_) | (refine wpList_store_mid rfl 45 _ _ rfl wr.heap.size 0 #[.int .u8 (gi : Int), .slice p m cp] rfl rfl HTH.out sz_item HON.out ?_; rw [show WA.setCells wr.heap.size 0 (#[.int .u8 (gi : Int), .slice p m cp] : Array Value).toList = W1 from HW1.out]))
                  refine C.out.mono ?_
                  rintro e w7 ⟨⟨rfl, hlen⟩, hb7⟩
                  have HB7 : Hid (Below W0.heap.size W0 w7) := HBX1.out.trans (hb7.mono HBX1.out.size)
                  have k0 := (HJ.out w7 hb7).1
                  have HSS : Hid (SE.size ≤ 20000000) := by show _ ≤ _; rw [← size_data, HE.out]; exact hlen
                  clear hlen hb7 C HRG HTH HW1 HON hWA j1 HBX1
                  by_cases g0 : gi = 0
                  case pos =>
                    subst g0
                    obtain ⟨x1, hx1⟩ : ∃ S, (⟨#[32]⟩ : ByteArray) ++ SE = S := ⟨_, rfl⟩
                    obtain ⟨x2, hx2⟩ : ∃ S, a ++ x1 = S := ⟨_, rfl⟩
                    have u1 := app_size _ _ _ hx1
                    have u2 := app_size _ _ _ hx2
                    have o1 : (⟨#[32]⟩ : ByteArray).size = 1 := rfl
                    have z2 := HAS.out
                    have z3 := HSS.out
                    have p1 : ¬ 9223372036854775807 < 1 + SE.size := by omega
                    have p2 : ¬ 9223372036854775807 < a.size + x1.size := by omega
                    have HAC2 := hid (HNX.out x2 [] (by
                      rw [app_data _ _ _ hx2, app_data _ _ _ hx1, HE.out, HIW.out, (HIE.out (by omega)).2, if_pos rfl]
                      rfl))
                    have HAS2 : Hid (x2.size ≤ 20006100 + (i + 1) * 20001000) := by show _ ≤ _; omega
                    clear u1 u2 o1 z2 z3 HAS HSS HNX HE HIW HIE HJ
                    go_wp2_with fail
                    go_roundg g'
                    case measure => omega
                    case rel => exact ⟨i + 1, x2, rfl, by go_num, by omega, by omega, HB7, HAC2, HAS2⟩
                  by_cases g1 : gi = 1
                  case pos =>
                    subst g1
                    obtain ⟨x2, hx2⟩ : ∃ S, a ++ (⟨#[32, 40, 99, 111, 117, 110, 116, 41]⟩ : ByteArray) = S := ⟨_, rfl⟩
                    have u2 := app_size _ _ _ hx2
                    have o1 : (⟨#[32, 40, 99, 111, 117, 110, 116, 41]⟩ : ByteArray).size = 8 := rfl
                    have z2 := HAS.out
                    have p2 : ¬ 9223372036854775807 < a.size + 8 := by omega
                    have HAC2 := hid (HNX.out x2 [] (by
                      rw [app_data _ _ _ hx2, HIW.out, if_neg (by omega), if_pos rfl]))
                    have HAS2 : Hid (x2.size ≤ 20006100 + (i + 1) * 20001000) := by show _ ≤ _; omega
                    clear u2 o1 z2 HAS HSS HNX HE HIW HIE HJ g0
                    go_wp2_with fail
                    go_roundg g'
                    case measure => omega
                    case rel => exact ⟨i + 1, x2, rfl, by go_num, by omega, by omega, HB7, HAC2, HAS2⟩
                  have q0 : ((gi : Int) == 0) = false := beq_eq_false_iff_ne.2 (by omega)
                  have q1 : ((gi : Int) == 1) = false := beq_eq_false_iff_ne.2 (by omega)
                  have hg5 := (HIE.out g1).1
                  obtain ⟨WD, hWD⟩ : ∃ S : ByteArray, (⟨(aggTextP gi).toArray⟩ : ByteArray) = S := ⟨_, rfl⟩
                  have HWD : Hid (WD.data.toList = aggTextP gi) := by show _ = _; rw [← hWD]
                  have C2 : Hid (Calls Tryz.prog 18 #[.int .u8 (gi : Int)] w7 fun e w' => e = .returned (.string WD) ∧ Below w7.heap.size w7 w') := by have := word_any gi (by omega) hg5 w7; rw [hWD] at this; exact this
                  have HIX : Hid (writeItemP y = bracketsP (aggTextP gi) [exprP y.e] ∧ showE y.e = (exprP y.e, 0)) := ⟨by rw [HIW.out, if_neg g0, if_neg g1], (HIE.out g1).2⟩
                  have hWs : WD.size ≤ 100 := by rw [← size_data, HWD.out]; exact Nat.le_trans (aggTextP_len gi) (by decide)
                  clear hWD HIE HIW HJ g0 g1 hg5
                  go_wp2_with fail
                  refine C2.out.mono ?_
                  rintro e w8 ⟨rfl, hb8⟩
                  have HB8 : Hid (Below W0.heap.size W0 w8) := HB7.out.trans (hb8.mono HB7.out.size)
                  clear C2 hb8 HB7 k0
                  obtain ⟨x1, hx1⟩ : ∃ S, (⟨#[32, 40]⟩ : ByteArray) ++ WD = S := ⟨_, rfl⟩
                  obtain ⟨x2, hx2⟩ : ∃ S, x1 ++ (⟨#[32]⟩ : ByteArray) = S := ⟨_, rfl⟩
                  obtain ⟨x3, hx3⟩ : ∃ S, x2 ++ SE = S := ⟨_, rfl⟩
                  obtain ⟨x4, hx4⟩ : ∃ S, x3 ++ (⟨#[41]⟩ : ByteArray) = S := ⟨_, rfl⟩
                  obtain ⟨x5, hx5⟩ : ∃ S, a ++ x4 = S := ⟨_, rfl⟩
                  have u1 := app_size _ _ _ hx1
                  have u2 := app_size _ _ _ hx2
                  have u3 := app_size _ _ _ hx3
                  have u4 := app_size _ _ _ hx4
                  have u5 := app_size _ _ _ hx5
                  have o1 : (⟨#[32]⟩ : ByteArray).size = 1 := rfl
                  have o2 : (⟨#[41]⟩ : ByteArray).size = 1 := rfl
                  have o3 : (⟨#[32, 40]⟩ : ByteArray).size = 2 := rfl
                  have z2 := HAS.out
                  have z3 := HSS.out
                  have p1 : ¬ 9223372036854775807 < 2 + WD.size := by omega
                  have p2 : ¬ 9223372036854775807 < x1.size + 1 := by omega
                  have p3 : ¬ 9223372036854775807 < x2.size + SE.size := by omega
                  have p4 : ¬ 9223372036854775807 < x3.size + 1 := by omega
                  have p5 : ¬ 9223372036854775807 < a.size + x4.size := by omega
                  have HAC2 := hid (HNX.out x5 [] (by
                    rw [app_data _ _ _ hx5, app_data _ _ _ hx4, app_data _ _ _ hx3, app_data _ _ _ hx2, app_data _ _ _ hx1, HE.out, HWD.out, HIX.out.1, HIX.out.2]
                    simp [bracketsP, partsL]))
                  have HAS2 : Hid (x5.size ≤ 20006100 + (i + 1) * 20001000) := by show _ ≤ _; omega
                  clear u1 u2 u3 u4 u5 o1 o2 o3 z2 z3 HAS HSS HNX HE HWD HIX hWs
                  go_wp2_with fail
                  go_roundg g'
                  case measure => omega
                  case rel => exact ⟨i + 1, x5, rfl, by go_num, by omega, by omega, HB8, HAC2, HAS2⟩
                · have z5 : ¬ (i : Int) < (ni : Int) := by omega
                  have z0 := HAS.out
                  have hall : q.i.take i = q.i := List.take_of_length_le (by rw [HN.out.1]; omega)
                  obtain ⟨x2, hx2⟩ : ∃ S, a ++ (⟨#[41]⟩ : ByteArray) = S := ⟨_, rfl⟩
                  have u2 := app_size _ _ _ hx2
                  have o1 : (⟨#[41]⟩ : ByteArray).size = 1 := rfl
                  have p2 : ¬ 9223372036854775807 < a.size + 1 := by omega
                  have HEQ : Hid (x2.data.toList = frontP q ++ partsL (joinL q) ++ partsL (whereL q) ++ partsL (groupL q) ++ partsL (getL q)) := by
                    show _ = _
                    rw [app_data _ _ _ hx2, HAC.out, hall, HGL.out]
                    simp [partsL, bracketsP]
                  have HZ7 : Hid (x2.size ≤ 300000000) := by show _ ≤ _; omega
                  clear z0 hall u2 o1 HAC HAS HGL
                  go_wp2_with fail
                  go_meet
                  case rel => exact ⟨x2, rfl, HBX, HEQ, HZ7⟩
          case rest =>
            clear HBX HA HZ
            obtain ⟨acc, rfl, HBX, HA, HZ⟩ := hcut
            have hbw : Below w.heap.size w wc := (HL.out wc HBX.out).2.2.2.2.2.2.2
            have HBW := hid hbw
            obtain ⟨Z, hZ⟩ : ∃ Z : ByteArray, (⟨(queryTextP q).toArray⟩ : ByteArray) = Z := ⟨_, rfl⟩
            have hq2 : acc ++ (⟨#[41]⟩ : ByteArray) = Z := by
              refine ba_ext ?_
              rw [app_list2, HA.out, ← hZ, get_text]
            have p2 : ¬ 9223372036854775807 < acc.size + 1 := by have := HZ.out; omega
            have HZZ := hid hZ
            clear hbw hZ HA HZ HLW HL HW HI HGR HS HN HBX HQ HK0 HB hSZ HG5
            go_wp2_with fail
            go_ret2
            exact ⟨by rw [HZZ.out]; rfl, HBW.out⟩
  · have yc : (cq != 0) = true := bne_iff_ne.2 hc0
    have HP : Hid (printP q = ([], cq)) := by show _ = _; unfold printP; rw [hcq, if_pos hc0]
    rw [show (printP q).1 = [] by rw [HP.out], show (printP q).2 = cq by rw [HP.out]]
    clear h hK hb0 hg0 hl0 hs0 hs1 hs2 hs3 hni hnw hng hcl hqc hcq HP hc0 HQ HK0 HL HS HN
    go_enter Tryz.func5, Tryz.ntmps5
    go_wp2_with (refine wpList_load_mid rfl 26 _ rfl w.heap.size 0 rfl _ _ HR0.out Tryz.underlying26 rfl sz_qry ?_)
    refine C0.out.mono ?_
    rintro e w1 ⟨rfl, hb1⟩
    have HB1 : Hid (Below w.heap.size w w1) := HB.out.trans (hb1.mono HB.out.size)
    clear C0 hb1 HR0 hW0
    go_wp2_with fail
    go_ret2
    exact ⟨rfl, HB1.out⟩
end Go.Proofs.YtnmmojhbcnlboaaGreatDoor.Rf
/- What the writing gives: the law. -/
namespace Go.Proofs.YtnmmojhbcnlboaaGreatDoor.Rf
open Go.Shelf Go.RowKit Go.Lib Go.Sort
set_option linter.unusedVariables false
set_option linter.unusedSimpArgs false
attribute [local go_sem ↓] Go.wp_at_zero Go.wp_at_succ
theorem quiet_row {P : Program} {ops : Array Oper} {C : World → Prop} {Q : Act → Prop} {a : Act} {op : Oper} {rest : List Oper} (hw : Region.wanted op (yielded ops a.tmps) = true) (ty : TypeId) (x : Operand) (ho : op.op = .load ty x)
    (b o : Nat) (hx : a.eval x = .pointer (some ⟨b, o, none⟩)) (cs : List Value) (d : TypeDesc) (hC : ∀ w, C w → w.rangeAt b o cs)
    (hu : P.underlying ty = some d) (hd : d.isRow = true) (hi : (P.info? ty).map (·.size) = some cs.length)
    (h : wpQuiet P ops C Q rest (a.put op.dst (.agg cs.toArray))) : wpQuiet P ops C Q (op :: rest) a := by
  unfold wpQuiet
  rw [if_pos hw]
  refine ⟨.agg cs.toArray, fun w hw' => ?_, h⟩
  unfold Oper.quietAt execOp
  simp only [ho, hx, Instr.loadAt, Instr.sureAddr, Sem.run_bind, Sem.run_pure, Result.andThen_ok, run_loadVar_mid w b o ty cs d (hC w hw') hu hd hi]
  exact ⟨rfl, rfl⟩
set_option maxRecDepth 100000 in
set_option maxHeartbeats 8000000 in
theorem print_w (K : Nat → Prop) (pi pw pg : Option Addr) (ci cw cg : Nat) (q : Qry) (w : World) (h : QLsW K w pi pw pg ci cw cg q) (hK : ∀ b, K b → b < w.heap.size) (hG : GA w) : Calls Tryz.prog 4 #[.agg (q.cl (.slice pi q.i.length ci) (.slice pw q.w.length cw) (.slice pg q.g.length cg))] w fun e w' => e = .returned (.tuple #[.string ⟨(printP q).1.toArray⟩, .int .i64 (printP q).2]) ∧ Below w.heap.size w w' := by
  cases hq : queryOkP q with
  | true => exact print_any K pi pw pg ci cw cg q w (h.narrow hq) hK hG.gw hG.g2
  | false =>
    obtain ⟨s0, hs0⟩ : ∃ s : ByteArray, (⟨q.t.toArray⟩ : ByteArray) = s := ⟨_, rfl⟩
    obtain ⟨s1, hs1⟩ : ∃ s : ByteArray, (⟨q.j.toArray⟩ : ByteArray) = s := ⟨_, rfl⟩
    obtain ⟨s2, hs2⟩ : ∃ s : ByteArray, (⟨q.a.toArray⟩ : ByteArray) = s := ⟨_, rfl⟩
    obtain ⟨s3, hs3⟩ : ∃ s : ByteArray, (⟨q.b.toArray⟩ : ByteArray) = s := ⟨_, rfl⟩
    obtain ⟨ni, hni⟩ : ∃ n, q.i.length = n := ⟨_, rfl⟩
    obtain ⟨nw, hnw⟩ : ∃ n, q.w.length = n := ⟨_, rfl⟩
    obtain ⟨ng, hng⟩ : ∃ n, q.g.length = n := ⟨_, rfl⟩
    have hcl : q.cl (.slice pi q.i.length ci) (.slice pw q.w.length cw) (.slice pg q.g.length cg) = #[.slice pi ni ci, .string s0, .string s1, .string s2, .string s3, .slice pw nw cw, .slice pg ng cg] := by unfold Qry.cl; rw [hs0, hs1, hs2, hs3, hni, hnw, hng]
    have HS : Hid (s0.data.toList = q.t ∧ s1.data.toList = q.j ∧ s2.data.toList = q.a ∧ s3.data.toList = q.b) := ⟨by rw [← hs0], by rw [← hs1], by rw [← hs2], by rw [← hs3]⟩
    have HN : Hid (q.i.length = ni ∧ q.w.length = nw ∧ q.g.length = ng) := ⟨hni, hnw, hng⟩
    obtain ⟨W0, hW0⟩ : ∃ W0, w.alloc (.cells #[.slice pi ni ci, .string s0, .string s1, .string s2, .string s3, .slice pw nw cw, .slice pg ng cg] 26) = W0 := ⟨_, rfl⟩
    have hb0 : Below w.heap.size w W0 := by rw [← hW0]; exact below_alloc _ _
    have hg0 : W0.heap[w.heap.size]? = some (.cells #[.slice pi ni ci, .string s0, .string s1, .string s2, .string s3, .slice pw nw cw, .slice pg ng cg] 26 (0, 0)) := by rw [← hW0]; exact heap_alloc_new w _
    have HQ := hid (h.below hK hb0)
    have HK0 : Hid (∀ b, K b → b < W0.heap.size) := fun b hb => Nat.lt_of_lt_of_le (hK b hb) hb0.size
    have HB := hid hb0
    have hl0 : w.heap.size < W0.heap.size := (Array.getElem?_eq_some_iff.1 hg0).1
    have HL : Hid (∀ V, Below W0.heap.size W0 V → V.cell? ⟨w.heap.size, 0, none⟩ = some (.slice pi ni ci) ∧ V.cell? ⟨w.heap.size, 1, none⟩ = some (.string s0) ∧ V.cell? ⟨w.heap.size, 2, none⟩ = some (.string s1) ∧ V.cell? ⟨w.heap.size, 3, none⟩ = some (.string s2) ∧ V.cell? ⟨w.heap.size, 4, none⟩ = some (.string s3) ∧ V.cell? ⟨w.heap.size, 5, none⟩ = some (.slice pw nw cw) ∧ V.cell? ⟨w.heap.size, 6, none⟩ = some (.slice pg ng cg) ∧ Below w.heap.size w V) := fun V hb => by
      have hg := (hb.block _ hl0).trans hg0
      exact ⟨cell_of_row hg rfl, cell_of_row hg rfl, cell_of_row hg rfl, cell_of_row hg rfl, cell_of_row hg rfl, cell_of_row hg rfl, cell_of_row hg rfl, hb0.trans (hb.mono hb0.size)⟩
    have HR0 : Hid (W0.rangeAt w.heap.size 0 [.slice pi ni ci, .string s0, .string s1, .string s2, .string s3, .slice pw nw cw, .slice pg ng cg]) := fun j u hu => by rw [Nat.zero_add]; exact cell_of_row hg0 (by simpa using hu)
    have hcq : checkQ q = 13 := by unfold checkQ; rw [hq]; rfl
    have C0 : Hid (Calls Tryz.prog 11 #[.agg #[.slice pi ni ci, .string s0, .string s1, .string s2, .string s3, .slice pw nw cw, .slice pg ng cg]] W0 fun e w' => e = .returned (.int .i64 13) ∧ Below W0.heap.size W0 w') := by have := check_w K pi pw pg ci cw cg q W0 HQ.out HK0.out (hG.gw.below hb0); rw [hcl, hcq] at this; exact this
    have HP : Hid (printP q = ([], 13)) := by show _ = _; unfold printP; rw [hcq]; rfl
    rw [hcl]
    rw [show (printP q).1 = [] by rw [HP.out], show (printP q).2 = 13 by rw [HP.out]]
    clear h hK hb0 hg0 hl0 hs0 hs1 hs2 hs3 hni hnw hng hcl hcq HP HQ HK0 HL HS HN hG hq
    go_enter Tryz.func4, Tryz.ntmps4
    go_wp2_with (refine wpList_load_mid rfl 26 _ rfl w.heap.size 0 rfl _ _ HR0.out Tryz.underlying26 rfl sz_qry ?_)
    refine C0.out.mono ?_
    rintro e w1 ⟨rfl, hb1⟩
    have HB1 : Hid (Below w.heap.size w w1) := HB.out.trans (hb1.mono HB.out.size)
    clear C0 hb1 HR0 hW0
    go_wp2_with fail
    go_ret2
    exact ⟨rfl, HB1.out⟩
set_option maxRecDepth 100000 in
set_option maxHeartbeats 16000000 in
theorem writes_walk (pi pw pg ps : Option Addr) (ci cw cg cs : Nat) (q : Qry) (l : List Stp) (s : Stp) (w : World) (h : QLsW (fun b => b < w.heap.size) w pi pw pg ci cw cg q) (hl : ListIs rStpW 3 32 (fun b => b < w.heap.size) w (.slice ps l.length cs) l) (hs : okW s) (hga : GA w) :
    Calls Tryz.prog 3 #[.agg (q.cl (.slice pi q.i.length ci) (.slice pw q.w.length cw) (.slice pg q.g.length cg)), .slice ps l.length cs, s.v] w fun e w' => e = .returned (.bool true) ∧ Below w.heap.size w w' := by
  obtain ⟨s0, hs0⟩ : ∃ s : ByteArray, (⟨q.t.toArray⟩ : ByteArray) = s := ⟨_, rfl⟩
  obtain ⟨s1, hs1⟩ : ∃ s : ByteArray, (⟨q.j.toArray⟩ : ByteArray) = s := ⟨_, rfl⟩
  obtain ⟨s2, hs2⟩ : ∃ s : ByteArray, (⟨q.a.toArray⟩ : ByteArray) = s := ⟨_, rfl⟩
  obtain ⟨s3, hs3⟩ : ∃ s : ByteArray, (⟨q.b.toArray⟩ : ByteArray) = s := ⟨_, rfl⟩
  obtain ⟨st, hst⟩ : ∃ u : ByteArray, (⟨s.t.toArray⟩ : ByteArray) = u := ⟨_, rfl⟩
  obtain ⟨ni, hni⟩ : ∃ n, q.i.length = n := ⟨_, rfl⟩
  obtain ⟨nw, hnw⟩ : ∃ n, q.w.length = n := ⟨_, rfl⟩
  obtain ⟨ng, hng⟩ : ∃ n, q.g.length = n := ⟨_, rfl⟩
  obtain ⟨nl, hnl⟩ : ∃ n, l.length = n := ⟨_, rfl⟩
  obtain ⟨sk, hsk⟩ : ∃ n : Int, (s.k : Int) = n := ⟨_, rfl⟩
  obtain ⟨sn, hsn⟩ : ∃ n : Int, s.n = n := ⟨_, rfl⟩
  have hsv : s.v = .agg #[.int .u8 sk, .string st, .int .i64 sn] := by unfold Stp.v; rw [hst, hsk, hsn]
  have hcl : q.cl (.slice pi q.i.length ci) (.slice pw q.w.length cw) (.slice pg q.g.length cg) = #[.slice pi ni ci, .string s0, .string s1, .string s2, .string s3, .slice pw nw cw, .slice pg ng cg] := by unfold Qry.cl; rw [hs0, hs1, hs2, hs3, hni, hnw, hng]
  obtain ⟨W0, hW0⟩ : ∃ W0, (w.alloc (.cells #[.slice pi ni ci, .string s0, .string s1, .string s2, .string s3, .slice pw nw cw, .slice pg ng cg] 26)).alloc (.cells #[.int .u8 sk, .string st, .int .i64 sn] 29) = W0 := ⟨_, rfl⟩
  have hb0 : Below w.heap.size w W0 := by rw [← hW0]; exact two_belowS _ _ _
  have hg0 : W0.heap[w.heap.size]? = some (.cells #[.slice pi ni ci, .string s0, .string s1, .string s2, .string s3, .slice pw nw cw, .slice pg ng cg] 26 (0, 0)) := by
    rw [← hW0, ← heap_alloc_new w (.cells #[.slice pi ni ci, .string s0, .string s1, .string s2, .string s3, .slice pw nw cw, .slice pg ng cg] 26)]
    exact (below_alloc _ _).block _ (by simp)
  have hg1 : W0.heap[w.heap.size + 1]? = some (.cells #[.int .u8 sk, .string st, .int .i64 sn] 29 (0, 0)) := by
    rw [← hW0]
    have := heap_alloc_new (w.alloc (.cells #[.slice pi ni ci, .string s0, .string s1, .string s2, .string s3, .slice pw nw cw, .slice pg ng cg] 26)) (.cells #[.int .u8 sk, .string st, .int .i64 sn] 29)
    simpa using this
  have hK : ∀ V, Below W0.heap.size W0 V → Below w.heap.size w V := fun V hb => hb0.trans (hb.mono hb0.size)
  have hl0 : w.heap.size < W0.heap.size := (Array.getElem?_eq_some_iff.1 hg0).1
  have hl1 : w.heap.size + 1 < W0.heap.size := (Array.getElem?_eq_some_iff.1 hg1).1
  have HR : Hid (∀ V, Below W0.heap.size W0 V → V.rangeAt w.heap.size 0 [.slice pi ni ci, .string s0, .string s1, .string s2, .string s3, .slice pw nw cw, .slice pg ng cg] ∧ V.rangeAt (w.heap.size + 1) 0 [.int .u8 sk, .string st, .int .i64 sn]) := fun V hb =>
    ⟨fun j u hu => by rw [Nat.zero_add]; exact cell_of_row ((hb.block _ hl0).trans hg0) (by simpa using hu), fun j u hu => by rw [Nat.zero_add]; exact cell_of_row ((hb.block _ hl1).trans hg1) (by simpa using hu)⟩
  obtain ⟨P, hP⟩ : ∃ u : ByteArray, (⟨(printP q).1.toArray⟩ : ByteArray) = u := ⟨_, rfl⟩
  obtain ⟨pe, hpe⟩ : ∃ r, (printP q).2 = r := ⟨_, rfl⟩
  obtain ⟨E, hE⟩ : ∃ u : ByteArray, (⟨(showE l).1.toArray⟩ : ByteArray) = u := ⟨_, rfl⟩
  obtain ⟨ee, hee⟩ : ∃ r, (showE l).2 = r := ⟨_, rfl⟩
  obtain ⟨tn, htn⟩ : ∃ r : Int, ((takesP s).1 : Int) = r := ⟨_, rfl⟩
  obtain ⟨tb, htb⟩ : ∃ r, (takesP s).2 = r := ⟨_, rfl⟩
  obtain ⟨cq, hcq⟩ : ∃ r, checkQ q = r := ⟨_, rfl⟩
  obtain ⟨rl, hrl⟩ : ∃ r, rightP l = r := ⟨_, rfl⟩
  have later : ∀ V, Below W0.heap.size W0 V → QLsW (fun b => b < w.heap.size) V pi pw pg ci cw cg q ∧ ListIs rStpW 3 32 (fun b => b < w.heap.size) V (.slice ps l.length cs) l ∧ (∀ b, b < w.heap.size → b < V.heap.size) ∧ GA V := fun V hb =>
    ⟨h.below (fun _ h => h) (hK V hb), hl.later mStpW (fun _ h => h) (hK V hb), fun b h => Nat.lt_of_lt_of_le h (hK V hb).size, hga.below (hK V hb)⟩
  have C4 : Hid (∀ V, Below W0.heap.size W0 V → Calls Tryz.prog 4 #[.agg #[.slice pi ni ci, .string s0, .string s1, .string s2, .string s3, .slice pw nw cw, .slice pg ng cg]] V fun e w' => e = .returned (.tuple #[.string P, .int .i64 pe]) ∧ Below V.heap.size V w') := fun V hb => by
    obtain ⟨h1, h2, h3, h4⟩ := later V hb
    have := print_w _ pi pw pg ci cw cg q V h1 h3 h4
    rw [hcl, hP, hpe] at this
    exact this
  have C5 : Hid (∀ V, Below W0.heap.size W0 V → Calls Tryz.prog 5 #[.agg #[.slice pi ni ci, .string s0, .string s1, .string s2, .string s3, .slice pw nw cw, .slice pg ng cg]] V fun e w' => e = .returned (.tuple #[.string P, .int .i64 pe]) ∧ Below V.heap.size V w') := fun V hb => by
    obtain ⟨h1, h2, h3, h4⟩ := later V hb
    have := printR_any _ pi pw pg ci cw cg q V h1 h3
    rw [hcl, hP, hpe] at this
    exact this
  have C6 : Hid (∀ V, Below W0.heap.size W0 V → Calls Tryz.prog 6 #[.slice ps nl cs] V fun e w' => e = .returned (.tuple #[.string E, .int .i64 ee]) ∧ Below V.heap.size V w') := fun V hb => by
    obtain ⟨h1, h2, h3, h4⟩ := later V hb
    have := show_any _ ps cs l V h2 h3 h4
    rw [hnl, hE, hee] at this
    exact this
  have C7 : Hid (∀ V, Below W0.heap.size W0 V → Calls Tryz.prog 7 #[.slice ps nl cs] V fun e w' => e = .returned (.tuple #[.string E, .int .i64 ee]) ∧ Below V.heap.size V w') := fun V hb => by
    obtain ⟨h1, h2, h3, h4⟩ := later V hb
    have := (showR_any _ ps cs l V h2 h3).mono fun e w' h => And.intro h.1.1 h.2
    rw [hnl, hE, hee] at this
    exact this
  have C8 : Hid (∀ V, Below W0.heap.size W0 V → Calls Tryz.prog 8 #[.agg #[.int .u8 sk, .string st, .int .i64 sn]] V fun e w' => e = .returned (.tuple #[.int .i64 tn, .bool tb]) ∧ Below V.heap.size V w') := fun V hb => by
    have := takes_w s V hs (later V hb).2.2.2.gw
    rw [hsv, htn, htb] at this
    exact this
  have C9 : Hid (∀ V, Below W0.heap.size W0 V → Calls Tryz.prog 9 #[.agg #[.int .u8 sk, .string st, .int .i64 sn]] V fun e w' => e = .returned (.tuple #[.int .i64 tn, .bool tb]) ∧ Below V.heap.size V w') := fun V hb => by
    have := takesR_any s V hs
    rw [hsv, htn, htb] at this
    exact this
  have C10 : Hid (∀ V, Below W0.heap.size W0 V → Calls Tryz.prog 10 #[] V fun e w' => e = .returned (.bool true) ∧ Below V.heap.size V w') := fun V hb => lives_any V (later V hb).2.2.2
  have C11 : Hid (∀ V, Below W0.heap.size W0 V → Calls Tryz.prog 11 #[.agg #[.slice pi ni ci, .string s0, .string s1, .string s2, .string s3, .slice pw nw cw, .slice pg ng cg]] V fun e w' => e = .returned (.int .i64 cq) ∧ Below V.heap.size V w') := fun V hb => by
    obtain ⟨h1, h2, h3, h4⟩ := later V hb
    have := check_w _ pi pw pg ci cw cg q V h1 h3 h4.gw
    rw [hcl, hcq] at this
    exact this
  have C12 : Hid (∀ V, Below W0.heap.size W0 V → Calls Tryz.prog 12 #[.agg #[.slice pi ni ci, .string s0, .string s1, .string s2, .string s3, .slice pw nw cw, .slice pg ng cg]] V fun e w' => e = .returned (.int .i64 cq) ∧ Below V.heap.size V w') := fun V hb => by
    obtain ⟨h1, h2, h3, h4⟩ := later V hb
    have := checkR_any _ pi pw pg ci cw cg q V h1 h3
    rw [hcl, hcq] at this
    exact this
  have C13 : Hid (∀ V, Below W0.heap.size W0 V → Calls Tryz.prog 13 #[.slice ps nl cs] V fun e w' => e = .returned (.bool rl) ∧ Below V.heap.size V w') := fun V hb => by
    obtain ⟨h1, h2, h3, h4⟩ := later V hb
    have := right_w _ ps cs l V h2 h3 h4.gw
    rw [hnl, hrl] at this
    exact this
  have C14 : Hid (∀ V, Below W0.heap.size W0 V → Calls Tryz.prog 14 #[.slice ps nl cs] V fun e w' => e = .returned (.bool rl) ∧ Below V.heap.size V w') := fun V hb => by
    obtain ⟨h1, h2, h3, h4⟩ := later V hb
    have := rightR_any _ ps cs l V h2 h3
    rw [hnl, hrl] at this
    exact this
  have HB0 := hid hb0
  rw [hcl, hnl, hsv]
  clear h hl hs hga hs0 hs1 hs2 hs3 hst hni hnw hng hnl hsk hsn hsv hcl hb0 hg0 hg1 hK hl0 hl1 hP hpe hE hee htn htb hcq hrl later
  go_enter Tryz.func3, Tryz.ntmps3
  have HRR0 := hid (HR.out W0 (Below.refl _ _)).1
  have D4 := hid (C4.out W0 (Below.refl _ _))
  go_wp2_with (refine wpList_load_mid rfl 26 _ rfl w.heap.size 0 rfl _ _ HRR0.out Tryz.underlying26 rfl sz_qry ?_)
  refine D4.out.mono ?_
  rintro e w1 ⟨rfl, hb1⟩
  have HB1 := hid hb1
  have HRR1 := hid (HR.out w1 hb1).1
  have D5 := hid (C5.out w1 hb1)
  clear D4 HRR0 hb1 hW0 C4
  go_wp2_with (refine wpList_load_mid rfl 26 _ rfl w.heap.size 0 rfl _ _ HRR1.out Tryz.underlying26 rfl sz_qry ?_)
  refine D5.out.mono ?_
  rintro e w2 ⟨rfl, hb2⟩
  have HB2 : Hid (Below W0.heap.size W0 w2) := HB1.out.trans (hb2.mono HB1.out.size)
  have D6 := hid (C6.out w2 HB2.out)
  clear D5 HRR1 hb2 C5 HB1
  go_wp2_with fail
  refine D6.out.mono ?_
  rintro e w3 ⟨rfl, hb3⟩
  have HB3 : Hid (Below W0.heap.size W0 w3) := HB2.out.trans (hb3.mono HB2.out.size)
  have D7 := hid (C7.out w3 HB3.out)
  clear D6 hb3 C6 HB2
  go_wp2_with fail
  refine D7.out.mono ?_
  rintro e w4 ⟨rfl, hb4⟩
  have HB4 : Hid (Below W0.heap.size W0 w4) := HB3.out.trans (hb4.mono HB3.out.size)
  have HRR4 := hid (HR.out w4 HB4.out).2
  have D8 := hid (C8.out w4 HB4.out)
  clear D7 hb4 C7 HB3
  go_wp2_with (refine wpList_load_mid rfl 29 _ rfl (w.heap.size + 1) 0 rfl _ _ HRR4.out Tryz.underlying29 rfl sz_step ?_)
  refine D8.out.mono ?_
  rintro e w5 ⟨rfl, hb5⟩
  have HB5 : Hid (Below W0.heap.size W0 w5) := HB4.out.trans (hb5.mono HB4.out.size)
  have HRR5 := hid (HR.out w5 HB5.out).2
  have D9 := hid (C9.out w5 HB5.out)
  clear D8 hb5 C8 HB4 HRR4
  go_wp2_with (refine wpList_load_mid rfl 29 _ rfl (w.heap.size + 1) 0 rfl _ _ HRR5.out Tryz.underlying29 rfl sz_step ?_)
  refine D9.out.mono ?_
  rintro e w6 ⟨rfl, hb6⟩
  have HB6 : Hid (Below W0.heap.size W0 w6) := HB5.out.trans (hb6.mono HB5.out.size)
  clear D9 hb6 C9 HB5 HRR5
  have HX : Hid (∀ p : LaterS w6.heap.size w6, Below W0.heap.size W0 p.w) := fun p => HB6.out.trans (p.h.mono HB6.out.size)
  go_wp2_with fail
  have inhL := laterInh
  refine wp_region_laterS mixedOnS (by kernel_rfl) ?_
  repeat (first
    | (refine quiet_row rfl 26 _ rfl w.heap.size 0 rfl [.slice pi ni ci, .string s0, .string s1, .string s2, .string s3, .slice pw nw cw, .slice pg ng cg] _ (fun w hw => by obtain ⟨p, rfl⟩ := hw; exact (HR.out _ (HX.out p)).1) Tryz.underlying26 rfl sz_qry ?_; simp only [Act.put, List.getElem_toArray, List.getElem_cons_zero, List.getElem_cons_succ, List.setIfInBounds_toArray, List.set_cons_zero, List.set_cons_succ])
    | go_big_quiet_step ((first
      | (go_at_call 10; exact calls_laterS (C10.out _ (HX.out _)))
      | (go_at_call 11; exact calls_laterS (C11.out _ (HX.out _)))
      | (go_at_call 12; exact calls_laterS (C12.out _ (HX.out _)))
      | (go_at_call 13; exact calls_laterS (C13.out _ (HX.out _)))
      | (go_at_call 14; exact calls_laterS (C14.out _ (HX.out _))))))
  refine wpQuiet_nil ?_
  intro w7 hw'
  obtain ⟨⟨wq, hwq⟩, hw''⟩ := hw'
  have e2 : w7 = wq := hw''
  subst e2
  have HB7 : Hid (Below w.heap.size w w7) := HB0.out.trans ((HB6.out.trans (hwq.mono HB6.out.size)).mono HB0.out.size)
  clear hw'' hwq HX C10 C11 C12 C13 C14
  go_wp2_with fail
  go_ret
  exact ⟨rfl, HB7.out⟩
end Go.Proofs.YtnmmojhbcnlboaaGreatDoor.Rf
