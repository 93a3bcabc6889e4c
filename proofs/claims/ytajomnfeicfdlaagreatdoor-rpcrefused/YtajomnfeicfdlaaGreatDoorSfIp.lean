/- Messages that are one. -/
import Derived.Test.YtajomnfeicfdlaaGreatDoorSaSbScSdSe
import Derived.Test.YtajomnfeicfdlaaGreatDoorHo
import Derived.Test.YtajomnfeicfdlaaGreatDoorIaIbIcIdIeIfIgIhIl
namespace Go.Proofs.YtajomnfeicfdlaaGreatDoor
open Go.Shelf Go.RowKit Go.Lib
set_option linter.unusedVariables false
set_option linter.unusedSimpArgs false
attribute [local go_sem ↓] Go.wp_at_zero Go.wp_at_succ
set_option maxRecDepth 10000 in
theorem run_strm_ne (a b c d e : Int) (w : World) :
  (binOp .neq 47 (.agg #[.int .u64 a, .int .u64 b, .int .i64 c, .int .i64 d, .int .i64 e]) (.agg #[.int .u64 a, .int .u64 b, .int .i64 c, .int .i64 d, .int .i64 e])).run Tryz.prog w = .ok (.bool false) w := by
 have h : (binOp .eql 47 (.agg #[.int .u64 a, .int .u64 b, .int .i64 c, .int .i64 d, .int .i64 e]) (.agg #[.int .u64 a, .int .u64 b, .int .i64 c, .int .i64 d, .int .i64 e])).run Tryz.prog w = .ok (.bool true) w := by
  have hS : Tryz.prog.underlying 47 = some (.struct (Tryz.prog.fieldsOf 47)) := by kernel_rfl
  have hp : Tryz.prog.stoodInHeld 47 = false := by kernel_rfl
  have hS2 : Tryz.prog.underlying 27 = some (.struct (Tryz.prog.fieldsOf 27)) := by kernel_rfl
  have hp2 : Tryz.prog.stoodInHeld 27 = false := by kernel_rfl
  have u9 := Tryz.underlying25; have a9 := Tryz.isAgg25; have z9 := Tryz.sizeOf25
  have u3 := Tryz.underlying3; have a3 := Tryz.isAgg3; have z3 := Tryz.sizeOf3
  have aq := Tryz.isAgg27; have zq := Tryz.sizeOf27
  have hq : (Op.equalIn 9999 27 (.agg #[.int .u64 a, .int .u64 b]) (.agg #[.int .u64 a, .int .u64 b])).run Tryz.prog w = .ok true w := by
   rw [show (9999 : Nat) = 9998 + 1 from rfl, run_equalIn_struct w 9998 27 _ _ hS2 hp2]
   simp only [Program.fieldsOf, Tryz.underlying27]
   clear hS2 hp2 hS hp
   go_simp
  clear hS2 hp2
  rw [run_eql_struct, show (10000 : Nat) = 9999 + 1 from rfl, run_equalIn_struct w 9999 47 _ _ hS hp]
  simp only [Program.fieldsOf, Tryz.underlying47]
  go_simp
 simp only [binOp, Sem.run_bind] at h ⊢
 generalize (Op.equal 47 (.agg #[.int .u64 a, .int .u64 b, .int .i64 c, .int .i64 d, .int .i64 e]) (.agg #[.int .u64 a, .int .u64 b, .int .i64 c, .int .i64 d, .int .i64 e])).run Tryz.prog w = r at h ⊢
 cases r <;> simp_all
set_option maxRecDepth 100000 in
set_option maxHeartbeats 8000000 in
theorem same_eq (cur cur' : Array Value) (x : Mg) (K L : Nat → Prop) (w : World) (h : MsgIs K w cur x) (h' : MsgIs L w cur' x) (hK : ∀ b, K b → b < w.heap.size) (hL : ∀ b, L b → b < w.heap.size) :
  Calls Tryz.prog 31 #[.agg cur, .agg cur'] w fun e w' => e = .returned (.bool true) ∧ Below w.heap.size w w' := by
 have KK : ∀ W, Below w.heap.size w W → ∀ b, K b → b < W.heap.size := fun W hb b h => Nat.lt_of_lt_of_le (hK b h) hb.size
 have LL : ∀ W, Below w.heap.size w W → ∀ b, L b → b < W.heap.size := fun W hb b h => Nat.lt_of_lt_of_le (hL b h) hb.size
 have F0 : Hid (cur[0]? = some (.int .u8 (x.k : Int))) := h.kc
 have hza : cur.size = 47 := h.size
 obtain ⟨_, _, ca1, rfl, _⟩ := h.bt
 obtain ⟨_, _, ca2, rfl, _⟩ := h.qr
 obtain ⟨_, _, ca4, rfl, _⟩ := h.at_
 obtain ⟨_, _, ca5, rfl, _⟩ := h.fr
 obtain ⟨_, _, ca6, rfl, _⟩ := h.tq
 obtain ⟨bsa, _, ca7, hbda⟩ := h.bd
 obtain ⟨_, _, ca18, vta, rfl, hcta⟩ := h.ct
 obtain ⟨fsa, _, ca19, hfga⟩ := h.fg
 obtain ⟨_, _, ca36, vna, rfl, hnda⟩ := h.nd
 obtain ⟨_, _, ca37, rfl, _⟩ := h.sq
 obtain ⟨_, _, ca38, rfl, _⟩ := h.ls
 obtain ⟨_, _, ca39, vra, rfl, hrwa⟩ := h.rw_
 obtain ⟨hsa, _, ca40, hfha⟩ := h.fh
 obtain ⟨_, _, ca45, vwa, rfl, hfwa⟩ := h.fw
 obtain ⟨_, _, ca46, vca, rfl, hcma⟩ := h.cm
 have G0 : Hid (cur'[0]? = some (.int .u8 (x.k : Int))) := h'.kc
 have hzb : cur'.size = 47 := h'.size
 obtain ⟨_, _, cb1, rfl, _⟩ := h'.bt
 obtain ⟨_, _, cb2, rfl, _⟩ := h'.qr
 obtain ⟨_, _, cb4, rfl, _⟩ := h'.at_
 obtain ⟨_, _, cb5, rfl, _⟩ := h'.fr
 obtain ⟨_, _, cb6, rfl, _⟩ := h'.tq
 obtain ⟨bsb, _, cb7, hbdb⟩ := h'.bd
 obtain ⟨_, _, cb18, vtb, rfl, hctb⟩ := h'.ct
 obtain ⟨fsb, _, cb19, hfgb⟩ := h'.fg
 obtain ⟨_, _, cb36, vnb, rfl, hndb⟩ := h'.nd
 obtain ⟨_, _, cb37, rfl, _⟩ := h'.sq
 obtain ⟨_, _, cb38, rfl, _⟩ := h'.ls
 obtain ⟨_, _, cb39, vrb, rfl, hrwb⟩ := h'.rw_
 obtain ⟨hsb, _, cb40, hfhb⟩ := h'.fh
 obtain ⟨_, _, cb45, vwb, rfl, hfwb⟩ := h'.fw
 obtain ⟨_, _, cb46, vcb, rfl, hcmb⟩ := h'.cm
 have CBd0 : ∀ W, Below w.heap.size w W → Calls Tryz.prog 53 #[.agg bsa.toArray, .agg bsb.toArray] W fun e w' => e = .returned (.bool true) ∧ Below W.heap.size W w' := fun W hb =>
  bound_eq bsa bsb x.bd K L W (mBnd _ _ _ _ _ _ (fun _ h => h) (kept_of hK hb) hbda) (mBnd _ _ _ _ _ _ (fun _ h => h) (kept_of hL hb) hbdb) (KK W hb) (LL W hb)
 have CFg0 : ∀ W, Below w.heap.size w W → Calls Tryz.prog 54 #[.agg fsa.toArray, .agg fsb.toArray] W fun e w' => e = .returned (.bool true) ∧ Below W.heap.size W w' := fun W hb =>
  frag_eq fsa fsb x.fg K L W (mFrg _ _ _ _ _ _ (fun _ h => h) (kept_of hK hb) hfga) (mFrg _ _ _ _ _ _ (fun _ h => h) (kept_of hL hb) hfgb) (KK W hb) (LL W hb)
 have CRw0 : ∀ W, Below w.heap.size w W → Calls Tryz.prog 52 #[vra, vrb] W fun e w' => e = .returned (.bool true) ∧ Below W.heap.size W w' := fun W hb =>
  rows_eq vra vrb x.rw K L W (ListIs.later mRow hrwa hK hb) (ListIs.later mRow hrwb hL hb) (KK W hb) (LL W hb)
 have CFl0 : ∀ W, Below w.heap.size w W → Calls Tryz.prog 55 #[.agg (hsa ++ [vwa]).toArray, .agg (hsb ++ [vwb]).toArray] W fun e w' => e = .returned (.bool true) ∧ Below W.heap.size W w' := fun W hb =>
  file_eq hsa hsb vwa vwb _ x.fl.r K L W (mFh _ _ _ _ _ _ (fun _ h => h) (kept_of hK hb) hfha) (mFh _ _ _ _ _ _ (fun _ h => h) (kept_of hL hb) hfhb) (ListIs.later mRow hfwa hK hb) (ListIs.later mRow hfwb hL hb) (KK W hb) (LL W hb)
 have CCm0 : ∀ W, Below w.heap.size w W → Calls Tryz.prog 56 #[vca, vcb] W fun e w' => e = .returned (.bool true) ∧ Below W.heap.size W w' := fun W hb =>
  claims_eq vca vcb x.cm K L W (ListIs.later mClm hcma hK hb) (ListIs.later mClm hcmb hL hb) (KK W hb) (LL W hb)
 obtain ⟨b1a, b2a, b3a, b4a, b5a, rfl, _, _, _, _, _, k1a, k2a, k3a, k4a, k5a⟩ := hbda
 obtain ⟨d1a, d2a, fva, rfl, _, _, r1a, r2a, _, k6a⟩ := hfga
 obtain ⟨e1a, rfl, _, _, _, _, k7a⟩ := r1a
 obtain ⟨e2a, rfl, _, _, _, _, k8a⟩ := r2a
 obtain ⟨e3a, rfl, _, _, _, k9a⟩ := hfha
 obtain ⟨p1a, q1a, rfl, _, _⟩ := k1a
 obtain ⟨p2a, q2a, rfl, _, _⟩ := k2a
 obtain ⟨p3a, q3a, rfl, _, _⟩ := k3a
 obtain ⟨p4a, q4a, rfl, _, _⟩ := k4a
 obtain ⟨p5a, q5a, rfl, _, _⟩ := k5a
 obtain ⟨p6a, q6a, rfl, _, _⟩ := k6a
 obtain ⟨p7a, q7a, rfl, _, _⟩ := k7a
 obtain ⟨p8a, q8a, rfl, _, _⟩ := k8a
 obtain ⟨p9a, q9a, rfl, _, _⟩ := k9a
 obtain ⟨pta, qta, rfl, _, hpta⟩ := hcta
 obtain ⟨pna, qna, rfl, _, hpna⟩ := hnda
 obtain ⟨pra, qra, rfl, _, _⟩ := hrwa
 obtain ⟨pwa, qwa, rfl, _, _⟩ := hfwa
 obtain ⟨pca, qca, rfl, _, _⟩ := hcma
 have HPTa : Hid _ := hpta
 have HPNa : Hid _ := hpna
 clear hpta hpna
 obtain ⟨b1b, b2b, b3b, b4b, b5b, rfl, _, _, _, _, _, k1b, k2b, k3b, k4b, k5b⟩ := hbdb
 obtain ⟨d1b, d2b, fvb, rfl, _, _, r1b, r2b, _, k6b⟩ := hfgb
 obtain ⟨e1b, rfl, _, _, _, _, k7b⟩ := r1b
 obtain ⟨e2b, rfl, _, _, _, _, k8b⟩ := r2b
 obtain ⟨e3b, rfl, _, _, _, k9b⟩ := hfhb
 obtain ⟨p1b, q1b, rfl, _, _⟩ := k1b
 obtain ⟨p2b, q2b, rfl, _, _⟩ := k2b
 obtain ⟨p3b, q3b, rfl, _, _⟩ := k3b
 obtain ⟨p4b, q4b, rfl, _, _⟩ := k4b
 obtain ⟨p5b, q5b, rfl, _, _⟩ := k5b
 obtain ⟨p6b, q6b, rfl, _, _⟩ := k6b
 obtain ⟨p7b, q7b, rfl, _, _⟩ := k7b
 obtain ⟨p8b, q8b, rfl, _, _⟩ := k8b
 obtain ⟨p9b, q9b, rfl, _, _⟩ := k9b
 obtain ⟨ptb, qtb, rfl, _, hptb⟩ := hctb
 obtain ⟨pnb, qnb, rfl, _, hpnb⟩ := hndb
 obtain ⟨prb, qrb, rfl, _, _⟩ := hrwb
 obtain ⟨pwb, qwb, rfl, _, _⟩ := hfwb
 obtain ⟨pcb, qcb, rfl, _, _⟩ := hcmb
 have HPTb : Hid _ := hptb
 have HPNb : Hid _ := hpnb
 clear hptb hpnb
 simp only [List.cons_append, List.nil_append] at CFg0 CFl0 ca19 cb19
 have CBd : Hid _ := CBd0
 clear CBd0
 have CFg : Hid _ := CFg0
 clear CFg0
 have CRw : Hid _ := CRw0
 clear CRw0
 have CFl : Hid _ := CFl0
 clear CFl0
 have CCm : Hid _ := CCm0
 clear CCm0
 have F1 : Hid (cur[1]? = some (.int .u64 (x.bt : Int))) := ca1 0 _ rfl
 have F2 : Hid (cur[2]? = some (.int .u64 (x.st.qb : Int))) := ca2 0 _ rfl
 have F3 : Hid (cur[3]? = some (.int .u64 (x.st.qn : Int))) := ca2 1 _ rfl
 have F4 : Hid (cur[4]? = some (.int .i64 x.st.at_)) := ca4 0 _ rfl
 have F5 : Hid (cur[5]? = some (.int .i64 x.st.fr)) := ca5 0 _ rfl
 have F6 : Hid (cur[6]? = some (.int .i64 x.st.to)) := ca6 0 _ rfl
 have F7 : Hid (cur[7]? = some (.string x.bd.t)) := ca7 0 _ rfl
 have F8 : Hid (cur[8]? = some (.string x.bd.j)) := ca7 1 _ rfl
 have F9 : Hid (cur[9]? = some (.int .i64 x.bd.w)) := ca7 2 _ rfl
 have F10 : Hid (cur[10]? = some (.int .i64 x.bd.l)) := ca7 3 _ rfl
 have F11 : Hid (cur[11]? = some (.int .i64 x.bd.r)) := ca7 4 _ rfl
 have F12 : Hid (cur[12]? = some (.slice p1a x.bd.wh.length q1a)) := ca7 5 _ rfl
 have F13 : Hid (cur[13]? = some (.slice p2a x.bd.g.length q2a)) := ca7 6 _ rfl
 have F14 : Hid (cur[14]? = some (.slice p3a x.bd.i.length q3a)) := ca7 7 _ rfl
 have F15 : Hid (cur[15]? = some (.bool x.bd.gr)) := ca7 8 _ rfl
 have F16 : Hid (cur[16]? = some (.slice p4a x.bd.nm.length q4a)) := ca7 9 _ rfl
 have F17 : Hid (cur[17]? = some (.slice p5a x.bd.kd.length q5a)) := ca7 10 _ rfl
 have F18 : Hid (cur[18]? = some (.slice pta x.ct.length qta)) := ca18 0 _ rfl
 have F19 : Hid (cur[19]? = some (.int .i64 x.fg.id)) := ca19 0 _ rfl
 have F20 : Hid (cur[20]? = some (.int .i64 x.fg.nd)) := ca19 1 _ rfl
 have F21 : Hid (cur[21]? = some (.int .u8 (x.fg.l.k : Int))) := ca19 2 _ rfl
 have F22 : Hid (cur[22]? = some (.string x.fg.l.t)) := ca19 3 _ rfl
 have F23 : Hid (cur[23]? = some (.int .u64 (x.fg.l.v.b : Int))) := ca19 4 _ rfl
 have F24 : Hid (cur[24]? = some (.int .u64 (x.fg.l.v.l : Int))) := ca19 5 _ rfl
 have F25 : Hid (cur[25]? = some (.int .i64 x.fg.l.s)) := ca19 6 _ rfl
 have F26 : Hid (cur[26]? = some (.slice p7a x.fg.l.f.length q7a)) := ca19 7 _ rfl
 have F27 : Hid (cur[27]? = some (.int .u8 (x.fg.r.k : Int))) := ca19 8 _ rfl
 have F28 : Hid (cur[28]? = some (.string x.fg.r.t)) := ca19 9 _ rfl
 have F29 : Hid (cur[29]? = some (.int .u64 (x.fg.r.v.b : Int))) := ca19 10 _ rfl
 have F30 : Hid (cur[30]? = some (.int .u64 (x.fg.r.v.l : Int))) := ca19 11 _ rfl
 have F31 : Hid (cur[31]? = some (.int .i64 x.fg.r.s)) := ca19 12 _ rfl
 have F32 : Hid (cur[32]? = some (.slice p8a x.fg.r.f.length q8a)) := ca19 13 _ rfl
 have F33 : Hid (cur[33]? = some (.bool x.fg.raw)) := ca19 14 _ rfl
 have F34 : Hid (cur[34]? = some (.int .i64 x.fg.by_)) := ca19 15 _ rfl
 have F35 : Hid (cur[35]? = some (.slice p6a x.fg.to.length q6a)) := ca19 16 _ rfl
 have F36 : Hid (cur[36]? = some (.slice pna x.nd.length qna)) := ca36 0 _ rfl
 have F37 : Hid (cur[37]? = some (.int .u64 (x.sq : Int))) := ca37 0 _ rfl
 have F38 : Hid (cur[38]? = some (.bool x.ls)) := ca38 0 _ rfl
 have F39 : Hid (cur[39]? = some (.slice pra x.rw.length qra)) := ca39 0 _ rfl
 have F40 : Hid (cur[40]? = some (.string x.fl.t)) := ca40 0 _ rfl
 have F41 : Hid (cur[41]? = some (.int .u64 (x.fl.v.b : Int))) := ca40 1 _ rfl
 have F42 : Hid (cur[42]? = some (.int .u64 (x.fl.v.l : Int))) := ca40 2 _ rfl
 have F43 : Hid (cur[43]? = some (.int .i64 x.fl.s)) := ca40 3 _ rfl
 have F44 : Hid (cur[44]? = some (.slice p9a x.fl.c.length q9a)) := ca40 4 _ rfl
 have F45 : Hid (cur[45]? = some (.slice pwa x.fl.r.length qwa)) := ca45 0 _ rfl
 have F46 : Hid (cur[46]? = some (.slice pca x.cm.length qca)) := ca46 0 _ rfl
 clear ca1 ca2 ca4 ca5 ca6 ca7 ca18 ca19 ca36 ca37 ca38 ca39 ca40 ca45 ca46 h
 have G1 : Hid (cur'[1]? = some (.int .u64 (x.bt : Int))) := cb1 0 _ rfl
 have G2 : Hid (cur'[2]? = some (.int .u64 (x.st.qb : Int))) := cb2 0 _ rfl
 have G3 : Hid (cur'[3]? = some (.int .u64 (x.st.qn : Int))) := cb2 1 _ rfl
 have G4 : Hid (cur'[4]? = some (.int .i64 x.st.at_)) := cb4 0 _ rfl
 have G5 : Hid (cur'[5]? = some (.int .i64 x.st.fr)) := cb5 0 _ rfl
 have G6 : Hid (cur'[6]? = some (.int .i64 x.st.to)) := cb6 0 _ rfl
 have G7 : Hid (cur'[7]? = some (.string x.bd.t)) := cb7 0 _ rfl
 have G8 : Hid (cur'[8]? = some (.string x.bd.j)) := cb7 1 _ rfl
 have G9 : Hid (cur'[9]? = some (.int .i64 x.bd.w)) := cb7 2 _ rfl
 have G10 : Hid (cur'[10]? = some (.int .i64 x.bd.l)) := cb7 3 _ rfl
 have G11 : Hid (cur'[11]? = some (.int .i64 x.bd.r)) := cb7 4 _ rfl
 have G12 : Hid (cur'[12]? = some (.slice p1b x.bd.wh.length q1b)) := cb7 5 _ rfl
 have G13 : Hid (cur'[13]? = some (.slice p2b x.bd.g.length q2b)) := cb7 6 _ rfl
 have G14 : Hid (cur'[14]? = some (.slice p3b x.bd.i.length q3b)) := cb7 7 _ rfl
 have G15 : Hid (cur'[15]? = some (.bool x.bd.gr)) := cb7 8 _ rfl
 have G16 : Hid (cur'[16]? = some (.slice p4b x.bd.nm.length q4b)) := cb7 9 _ rfl
 have G17 : Hid (cur'[17]? = some (.slice p5b x.bd.kd.length q5b)) := cb7 10 _ rfl
 have G18 : Hid (cur'[18]? = some (.slice ptb x.ct.length qtb)) := cb18 0 _ rfl
 have G19 : Hid (cur'[19]? = some (.int .i64 x.fg.id)) := cb19 0 _ rfl
 have G20 : Hid (cur'[20]? = some (.int .i64 x.fg.nd)) := cb19 1 _ rfl
 have G21 : Hid (cur'[21]? = some (.int .u8 (x.fg.l.k : Int))) := cb19 2 _ rfl
 have G22 : Hid (cur'[22]? = some (.string x.fg.l.t)) := cb19 3 _ rfl
 have G23 : Hid (cur'[23]? = some (.int .u64 (x.fg.l.v.b : Int))) := cb19 4 _ rfl
 have G24 : Hid (cur'[24]? = some (.int .u64 (x.fg.l.v.l : Int))) := cb19 5 _ rfl
 have G25 : Hid (cur'[25]? = some (.int .i64 x.fg.l.s)) := cb19 6 _ rfl
 have G26 : Hid (cur'[26]? = some (.slice p7b x.fg.l.f.length q7b)) := cb19 7 _ rfl
 have G27 : Hid (cur'[27]? = some (.int .u8 (x.fg.r.k : Int))) := cb19 8 _ rfl
 have G28 : Hid (cur'[28]? = some (.string x.fg.r.t)) := cb19 9 _ rfl
 have G29 : Hid (cur'[29]? = some (.int .u64 (x.fg.r.v.b : Int))) := cb19 10 _ rfl
 have G30 : Hid (cur'[30]? = some (.int .u64 (x.fg.r.v.l : Int))) := cb19 11 _ rfl
 have G31 : Hid (cur'[31]? = some (.int .i64 x.fg.r.s)) := cb19 12 _ rfl
 have G32 : Hid (cur'[32]? = some (.slice p8b x.fg.r.f.length q8b)) := cb19 13 _ rfl
 have G33 : Hid (cur'[33]? = some (.bool x.fg.raw)) := cb19 14 _ rfl
 have G34 : Hid (cur'[34]? = some (.int .i64 x.fg.by_)) := cb19 15 _ rfl
 have G35 : Hid (cur'[35]? = some (.slice p6b x.fg.to.length q6b)) := cb19 16 _ rfl
 have G36 : Hid (cur'[36]? = some (.slice pnb x.nd.length qnb)) := cb36 0 _ rfl
 have G37 : Hid (cur'[37]? = some (.int .u64 (x.sq : Int))) := cb37 0 _ rfl
 have G38 : Hid (cur'[38]? = some (.bool x.ls)) := cb38 0 _ rfl
 have G39 : Hid (cur'[39]? = some (.slice prb x.rw.length qrb)) := cb39 0 _ rfl
 have G40 : Hid (cur'[40]? = some (.string x.fl.t)) := cb40 0 _ rfl
 have G41 : Hid (cur'[41]? = some (.int .u64 (x.fl.v.b : Int))) := cb40 1 _ rfl
 have G42 : Hid (cur'[42]? = some (.int .u64 (x.fl.v.l : Int))) := cb40 2 _ rfl
 have G43 : Hid (cur'[43]? = some (.int .i64 x.fl.s)) := cb40 3 _ rfl
 have G44 : Hid (cur'[44]? = some (.slice p9b x.fl.c.length q9b)) := cb40 4 _ rfl
 have G45 : Hid (cur'[45]? = some (.slice pwb x.fl.r.length qwb)) := cb45 0 _ rfl
 have G46 : Hid (cur'[46]? = some (.slice pcb x.cm.length qcb)) := cb46 0 _ rfl
 clear cb1 cb2 cb4 cb5 cb6 cb7 cb18 cb19 cb36 cb37 cb38 cb39 cb40 cb45 cb46 h'
 have HKK : Hid (∀ b, K b → b < w.heap.size) := hK
 have HLL : Hid (∀ b, L b → b < w.heap.size) := hL
 have n1 : ((x.k : Int) != (x.k : Int)) = false := by simp
 have n2 : ((x.bt : Int) != (x.bt : Int)) = false := by simp
 have n3 : ((x.sq : Int) != (x.sq : Int)) = false := by simp
 have n4 : (x.ls != x.ls) = false := by simp
 have t1 : ((x.ct.length : Int) != (x.ct.length : Int)) = false := by simp
 have t2 : ((x.nd.length : Int) != (x.nd.length : Int)) = false := by simp
 have hst := run_strm_ne (x.st.qb : Int) (x.st.qn : Int) x.st.at_ x.st.fr x.st.to
 obtain ⟨W0, hW0, hb0, hs0, hg⟩ := two_boxesB w cur cur' 63
 have HG : Hid _ := hg
 obtain ⟨g0, g1⟩ := hg W0 (Below.refl _ _)
 have x0 := cell_of_row (k := 0) g0 F0.out
 have y0 := cell_of_row (k := 0) g1 G0.out
 have x1 := cell_of_row (k := 1) g0 F1.out
 have y1 := cell_of_row (k := 1) g1 G1.out
 have x2 := cell_of_row (k := 2) g0 F2.out
 have y2 := cell_of_row (k := 2) g1 G2.out
 have x3 := cell_of_row (k := 3) g0 F3.out
 have y3 := cell_of_row (k := 3) g1 G3.out
 have x4 := cell_of_row (k := 4) g0 F4.out
 have y4 := cell_of_row (k := 4) g1 G4.out
 have x5 := cell_of_row (k := 5) g0 F5.out
 have y5 := cell_of_row (k := 5) g1 G5.out
 have x6 := cell_of_row (k := 6) g0 F6.out
 have y6 := cell_of_row (k := 6) g1 G6.out
 have x18 := cell_of_row (k := 18) g0 F18.out
 have y18 := cell_of_row (k := 18) g1 G18.out
 have x36 := cell_of_row (k := 36) g0 F36.out
 have y36 := cell_of_row (k := 36) g1 G36.out
 have x37 := cell_of_row (k := 37) g0 F37.out
 have y37 := cell_of_row (k := 37) g1 G37.out
 have x38 := cell_of_row (k := 38) g0 F38.out
 have y38 := cell_of_row (k := 38) g1 G38.out
 have HB0 : Hid (Below w.heap.size w W0) := hb0
 have HS0 : Hid (W0.heap.size = w.heap.size + 2) := hs0
 have HZA : Hid (cur.size = 47) := hza
 have HZB : Hid (cur'.size = 47) := hzb
 clear hK hL hb0 hs0 hg g0 g1 KK LL
 go_enter Tryz.func31, Tryz.ntmps31
 go_wp2_with fail
 go_loopg [63] x.ct.length (fun gf s30 wx => ∃ i : Nat, s30 = .int .i64 i ∧ i ≤ x.ct.length ∧ x.ct.length ≤ i + gf ∧ Hid (Below W0.heap.size W0 wx))
 case atStart => exact ⟨0, rfl, by omega, by omega, Below.refl _ _⟩
 case round =>
  obtain ⟨i, rfl, hi1, hgf, HB⟩ := hrel
  have hbw : Below w.heap.size w wr := HB0.out.trans (HB.out.mono HB0.out.size)
  by_cases hi : i < x.ct.length
  ·obtain ⟨g', rfl⟩ : ∃ g', gk = g' + 1 := ⟨gk - 1, by omega⟩
   obtain ⟨g0, g1⟩ := HG.out wr HB.out
   obtain ⟨b, o, rfl, hKb, hc⟩ := HPTa.out (by omega)
   obtain ⟨b', o', rfl, hLb, hc'⟩ := HPTb.out (by omega)
   obtain ⟨cs, hcl, hcell, hrel1⟩ := hc i hi
   obtain ⟨ds, hdl, hdell, hrel2⟩ := hc' i hi
   obtain ⟨y, hy⟩ : ∃ y, x.ct[i] = y := ⟨_, rfl⟩
   rw [hy] at hrel1 hrel2
   obtain ⟨v1, v2, rfl, _, l1, l2⟩ := hrel1
   obtain ⟨u1, u2, rfl, _, k1, k2⟩ := hrel2
   have CC : Hid (∀ W, Below w.heap.size w W → Calls Tryz.prog 51 #[v1, u1] W fun e w' => e = .returned (.bool true) ∧ Below W.heap.size W w') := fun W hb =>
    cols_eq v1 u1 y.c K L W (ListIs.later mCl l1 HKK.out hb) (ListIs.later mCl k1 HLL.out hb) (fun b h => Nat.lt_of_lt_of_le (HKK.out b h) hb.size) (fun b h => Nat.lt_of_lt_of_le (HLL.out b h) hb.size)
   have CR : Hid (∀ W, Below w.heap.size w W → Calls Tryz.prog 52 #[v2, u2] W fun e w' => e = .returned (.bool true) ∧ Below W.heap.size W w') := fun W hb =>
    rows_eq v2 u2 y.r K L W (ListIs.later mRow l2 HKK.out hb) (ListIs.later mRow k2 HLL.out hb) (fun b h => Nat.lt_of_lt_of_le (HKK.out b h) hb.size) (fun b h => Nat.lt_of_lt_of_le (HLL.out b h) hb.size)
   obtain ⟨f1, j1, rfl, _, _⟩ := l1
   obtain ⟨f2, j2, rfl, _, _⟩ := l2
   obtain ⟨f3, j3, rfl, _, _⟩ := k1
   obtain ⟨f4, j4, rfl, _, _⟩ := k2
   have c0 : wr.cell? ⟨b, o + i * 3, none⟩ = some (.string y.n) := by rw [hbw.cell (p := ⟨b, _, none⟩) (HKK.out _ hKb)]; exact hcell 0 _ rfl
   have c1 : wr.cell? ⟨b, o + i * 3 + 1, none⟩ = some (.slice f1 y.c.length j1) := by rw [hbw.cell (p := ⟨b, _, none⟩) (HKK.out _ hKb)]; exact hcell 1 _ rfl
   have c2 : wr.cell? ⟨b, o + i * 3 + 2, none⟩ = some (.slice f2 y.r.length j2) := by rw [hbw.cell (p := ⟨b, _, none⟩) (HKK.out _ hKb)]; exact hcell 2 _ rfl
   have e0 : wr.cell? ⟨b', o' + i * 3, none⟩ = some (.string y.n) := by rw [hbw.cell (p := ⟨b', _, none⟩) (HLL.out _ hLb)]; exact hdell 0 _ rfl
   have e1 : wr.cell? ⟨b', o' + i * 3 + 1, none⟩ = some (.slice f3 y.c.length j3) := by rw [hbw.cell (p := ⟨b', _, none⟩) (HLL.out _ hLb)]; exact hdell 1 _ rfl
   have e2 : wr.cell? ⟨b', o' + i * 3 + 2, none⟩ = some (.slice f4 y.r.length j4) := by rw [hbw.cell (p := ⟨b', _, none⟩) (HLL.out _ hLb)]; exact hdell 2 _ rfl
   have m0 := cell_of_row (k := 18) g0 F18.out
   have m1 := cell_of_row (k := 18) g1 G18.out
   have z0 : (0 : Int) ≤ (i : Int) := by omega
   have z1 : (i : Int) < (x.ct.length : Int) := by omega
   have HB3 : Hid (Below W0.heap.size W0 wr) := HB.out
   have hbr : b < wr.heap.size := Nat.lt_of_lt_of_le (HKK.out _ hKb) hbw.size
   have hbr' : b' < wr.heap.size := Nat.lt_of_lt_of_le (HLL.out _ hLb) hbw.size
   have hwr : w.heap.size + 1 < wr.heap.size := Nat.lt_of_lt_of_le (by rw [HS0.out]; omega) HB.out.size
   have HBR : Hid (b < wr.heap.size ∧ b' < wr.heap.size ∧ w.heap.size < wr.heap.size ∧ w.heap.size + 1 < wr.heap.size) := ⟨hbr, hbr', by omega, hwr⟩
   clear hc hc' hcell hdell hy HB hcl hdl hKb hLb hbw g0 g1 hbr hbr' hwr
   go_wp2_with fail
   go_region_held3 (fun w' => w'.cell? ⟨w.heap.size, 18, none⟩ = some (.slice (some ⟨b, o, none⟩) x.ct.length qta) ∧ w'.cell? ⟨w.heap.size + 1, 18, none⟩ = some (.slice (some ⟨b', o', none⟩) x.ct.length qtb) ∧ w'.cell? ⟨b, o + i * 3, none⟩ = some (.string y.n) ∧ w'.cell? ⟨b, o + i * 3 + 1, none⟩ = some (.slice f1 y.c.length j1) ∧ w'.cell? ⟨b, o + i * 3 + 2, none⟩ = some (.slice f2 y.r.length j2) ∧ w'.cell? ⟨b', o' + i * 3, none⟩ = some (.string y.n) ∧ w'.cell? ⟨b', o' + i * 3 + 1, none⟩ = some (.slice f3 y.c.length j3) ∧ w'.cell? ⟨b', o' + i * 3 + 2, none⟩ = some (.slice f4 y.r.length j4))
    (go_keep)
    (fail)
   ·as_aux_lemma =>
     obtain ⟨V, hV, hbV, _, hgV⟩ := two_boxesB wr #[.string y.n, .slice f1 y.c.length j1, .slice f2 y.r.length j2] #[.string y.n, .slice f3 y.c.length j3, .slice f4 y.r.length j4] 97
     rw [hV]
     obtain ⟨V1, hV1⟩ : ∃ V1, V.drew = V1 := ⟨_, rfl⟩
     rw [hV1]
     have hbV1 : Below V.heap.size V V1 := by rw [← hV1]; exact (Below.refl _ _).drew
     obtain ⟨g0, g1⟩ := hgV V1 hbV1
     have k0 := cell_of_row (k := 0) g0 rfl
     have k1 := cell_of_row (k := 1) g0 rfl
     have l0 := cell_of_row (k := 0) g1 rfl
     have l1 := cell_of_row (k := 1) g1 rfl
     have HW1 : Hid (Below W0.heap.size W0 V1) := HB3.out.trans ((hbV.trans (hbV1.mono hbV.size)).mono HB3.out.size)
     have HGV : Hid _ := hgV
     have HVV : Hid (Below V.heap.size V V1) := hbV1
     clear hV hV1 hbV hbV1 hgV g0 g1 c0 c1 c2 e0 e1 e2 m0 m1
     go_wp2_with fail
     refine (CC.out V1 (HB0.out.trans (HW1.out.mono HB0.out.size))).mono ?_
     rintro e w2 ⟨rfl, hb2⟩
     have HV2 : Hid (Below V.heap.size V w2) := HVV.out.trans (hb2.mono HVV.out.size)
     have HW2 : Hid (Below W0.heap.size W0 w2) := HW1.out.trans (hb2.mono HW1.out.size)
     obtain ⟨g0, g1⟩ := HGV.out w2 HV2.out
     have k2 := cell_of_row (k := 2) g0 rfl
     have l2 := cell_of_row (k := 2) g1 rfl
     clear hb2 g0 g1
     go_wp2_with fail
     refine (CR.out w2 (HB0.out.trans (HW2.out.mono HB0.out.size))).mono ?_
     rintro e w3 ⟨rfl, hb3⟩
     have HW3 : Hid (Below W0.heap.size W0 w3) := HW2.out.trans (hb3.mono HW2.out.size)
     clear hb3
     go_wp2_with fail
     go_roundg g'
     case measure => omega
     case rel => exact ⟨i + 1, by go_num, by omega, by omega, HW3⟩
   ·as_aux_lemma =>
     obtain ⟨V, hV, hbV, _, hgV⟩ := two_boxesB wr #[.string y.n, .slice f3 y.c.length j3, .slice f4 y.r.length j4] #[.string y.n, .slice f1 y.c.length j1, .slice f2 y.r.length j2] 97
     rw [hV]
     obtain ⟨V1, hV1⟩ : ∃ V1, V.drew = V1 := ⟨_, rfl⟩
     rw [hV1]
     have hbV1 : Below V.heap.size V V1 := by rw [← hV1]; exact (Below.refl _ _).drew
     obtain ⟨g0, g1⟩ := hgV V1 hbV1
     have k0 := cell_of_row (k := 0) g0 rfl
     have k1 := cell_of_row (k := 1) g0 rfl
     have l0 := cell_of_row (k := 0) g1 rfl
     have l1 := cell_of_row (k := 1) g1 rfl
     have HW1 : Hid (Below W0.heap.size W0 V1) := HB3.out.trans ((hbV.trans (hbV1.mono hbV.size)).mono HB3.out.size)
     have HGV : Hid _ := hgV
     have HVV : Hid (Below V.heap.size V V1) := hbV1
     clear hV hV1 hbV hbV1 hgV g0 g1 c0 c1 c2 e0 e1 e2 m0 m1
     go_wp2_with fail
     refine (CC.out V1 (HB0.out.trans (HW1.out.mono HB0.out.size))).mono ?_
     rintro e w2 ⟨rfl, hb2⟩
     have HV2 : Hid (Below V.heap.size V w2) := HVV.out.trans (hb2.mono HVV.out.size)
     have HW2 : Hid (Below W0.heap.size W0 w2) := HW1.out.trans (hb2.mono HW1.out.size)
     obtain ⟨g0, g1⟩ := HGV.out w2 HV2.out
     have k2 := cell_of_row (k := 2) g0 rfl
     have l2 := cell_of_row (k := 2) g1 rfl
     clear hb2 g0 g1
     go_wp2_with fail
     refine (CR.out w2 (HB0.out.trans (HW2.out.mono HB0.out.size))).mono ?_
     rintro e w3 ⟨rfl, hb3⟩
     have HW3 : Hid (Below W0.heap.size W0 w3) := HW2.out.trans (hb3.mono HW2.out.size)
     clear hb3
     go_wp2_with fail
     go_roundg g'
     case measure => omega
     case rel => exact ⟨i + 1, by go_num, by omega, by omega, HW3⟩
  ·have z1 : ¬ (i : Int) < (x.ct.length : Int) := by omega
   have HV0 : Hid (Below W0.heap.size W0 wr) := HB.out
   obtain ⟨g0, g1⟩ := HG.out wr HB.out
   have m0 := cell_of_row (k := 36) g0 F36.out
   have m1 := cell_of_row (k := 36) g1 G36.out
   clear HB hbw g0 g1
   go_wp2_with fail
   clear m0 m1 z1 hi hi1 hgf
   obtain ⟨V0, hV0⟩ : ∃ V0, V0 = wr := ⟨_, rfl⟩
   subst hV0
   as_aux_lemma =>
    go_loopg [101] x.nd.length (fun gf s30 wx => ∃ i : Nat, s30 = .int .i64 i ∧ i ≤ x.nd.length ∧ x.nd.length ≤ i + gf ∧ Hid (Below W0.heap.size W0 wx))
    case atStart => exact ⟨0, rfl, by omega, by omega, HV0⟩
    case round =>
     clear HV0
     obtain ⟨i, rfl, hi1, hgf, HB⟩ := hrel
     have hbw : Below w.heap.size w wr := HB0.out.trans (HB.out.mono HB0.out.size)
     obtain ⟨g0, g1⟩ := HG.out wr HB.out
     by_cases hi : i < x.nd.length
     ·obtain ⟨g', rfl⟩ : ∃ g', gk = g' + 1 := ⟨gk - 1, by omega⟩
      obtain ⟨b, o, rfl, hKb, hc⟩ := HPNa.out (by omega)
      obtain ⟨b', o', rfl, hLb, hc'⟩ := HPNb.out (by omega)
      obtain ⟨cs, hcl, hcell, hrel1⟩ := hc i hi
      obtain ⟨ds, hdl, hdell, hrel2⟩ := hc' i hi
      obtain ⟨y, hy⟩ : ∃ y, x.nd[i] = y := ⟨_, rfl⟩
      rw [hy] at hrel1 hrel2
      have hcs := hrel1.1
      have hds := hrel2.1
      have hcell2 : ∀ j u, cs[j]? = some u → wr.cell? ⟨b, o + i * 1 + j, none⟩ = some u := fun j u hj => by rw [hbw.cell (p := ⟨b, _, none⟩) (HKK.out _ hKb)]; exact hcell j u hj
      have hdell2 : ∀ j u, ds[j]? = some u → wr.cell? ⟨b', o' + i * 1 + j, none⟩ = some u := fun j u hj => by rw [hbw.cell (p := ⟨b', _, none⟩) (HLL.out _ hLb)]; exact hdell j u hj
      rw [hcs] at hcell2
      rw [hds] at hdell2
      have c0 := hcell2 0 _ rfl
      have e0 := hdell2 0 _ rfl
      simp only [Nat.add_zero, Nat.mul_one] at c0 e0
      have m0 := cell_of_row (k := 36) g0 F36.out
      have m1 := cell_of_row (k := 36) g1 G36.out
      have z0 : (0 : Int) ≤ (i : Int) := by omega
      have z1 : (i : Int) < (x.nd.length : Int) := by omega
      have HB3 : Hid (Below W0.heap.size W0 wr) := HB.out
      clear hc hc' hcell hdell hcell2 hdell2 hrel1 hrel2 hy HB hcl hdl hKb hLb hcs hds hbw g0 g1
      have n5 : (y != y) = false := by simp
      go_wp2_with fail
      go_quiet (fail)
      go_wp2_with fail
      go_roundg g'
      case measure => omega
      case rel => exact ⟨i + 1, by go_num, by omega, by omega, below_drewN HB3.out _⟩
     ·have z1 : ¬ (i : Int) < (x.nd.length : Int) := by omega
      have HB2 : Hid (Below W0.heap.size W0 wr) := HB.out
      clear HB hbw
      as_aux_lemma =>
       have x7 := cell_of_row (k := 7) g0 F7.out
       have y7 := cell_of_row (k := 7) g1 G7.out
       have x8 := cell_of_row (k := 8) g0 F8.out
       have y8 := cell_of_row (k := 8) g1 G8.out
       have x9 := cell_of_row (k := 9) g0 F9.out
       have y9 := cell_of_row (k := 9) g1 G9.out
       have x10 := cell_of_row (k := 10) g0 F10.out
       have y10 := cell_of_row (k := 10) g1 G10.out
       have x11 := cell_of_row (k := 11) g0 F11.out
       have y11 := cell_of_row (k := 11) g1 G11.out
       have x12 := cell_of_row (k := 12) g0 F12.out
       have y12 := cell_of_row (k := 12) g1 G12.out
       have x13 := cell_of_row (k := 13) g0 F13.out
       have y13 := cell_of_row (k := 13) g1 G13.out
       have x14 := cell_of_row (k := 14) g0 F14.out
       have y14 := cell_of_row (k := 14) g1 G14.out
       have x15 := cell_of_row (k := 15) g0 F15.out
       have y15 := cell_of_row (k := 15) g1 G15.out
       have x16 := cell_of_row (k := 16) g0 F16.out
       have y16 := cell_of_row (k := 16) g1 G16.out
       have x17 := cell_of_row (k := 17) g0 F17.out
       have y17 := cell_of_row (k := 17) g1 G17.out
       clear g0 g1
       go_wp2_with fail
       refine (CBd.out wr (HB0.out.trans (HB2.out.mono HB0.out.size))).mono ?_
       rintro e X0 ⟨rfl, hbx⟩
       have HX0 : Hid (Below W0.heap.size W0 X0) := HB2.out.trans (hbx.mono HB2.out.size)
       clear hbx
       obtain ⟨g0, g1⟩ := HG.out X0 HX0.out
       have x19 := cell_of_row (k := 19) g0 F19.out
       have y19 := cell_of_row (k := 19) g1 G19.out
       have x20 := cell_of_row (k := 20) g0 F20.out
       have y20 := cell_of_row (k := 20) g1 G20.out
       have x21 := cell_of_row (k := 21) g0 F21.out
       have y21 := cell_of_row (k := 21) g1 G21.out
       have x22 := cell_of_row (k := 22) g0 F22.out
       have y22 := cell_of_row (k := 22) g1 G22.out
       have x23 := cell_of_row (k := 23) g0 F23.out
       have y23 := cell_of_row (k := 23) g1 G23.out
       have x24 := cell_of_row (k := 24) g0 F24.out
       have y24 := cell_of_row (k := 24) g1 G24.out
       have x25 := cell_of_row (k := 25) g0 F25.out
       have y25 := cell_of_row (k := 25) g1 G25.out
       have x26 := cell_of_row (k := 26) g0 F26.out
       have y26 := cell_of_row (k := 26) g1 G26.out
       have x27 := cell_of_row (k := 27) g0 F27.out
       have y27 := cell_of_row (k := 27) g1 G27.out
       have x28 := cell_of_row (k := 28) g0 F28.out
       have y28 := cell_of_row (k := 28) g1 G28.out
       have x29 := cell_of_row (k := 29) g0 F29.out
       have y29 := cell_of_row (k := 29) g1 G29.out
       have x30 := cell_of_row (k := 30) g0 F30.out
       have y30 := cell_of_row (k := 30) g1 G30.out
       have x31 := cell_of_row (k := 31) g0 F31.out
       have y31 := cell_of_row (k := 31) g1 G31.out
       have x32 := cell_of_row (k := 32) g0 F32.out
       have y32 := cell_of_row (k := 32) g1 G32.out
       have x33 := cell_of_row (k := 33) g0 F33.out
       have y33 := cell_of_row (k := 33) g1 G33.out
       have x34 := cell_of_row (k := 34) g0 F34.out
       have y34 := cell_of_row (k := 34) g1 G34.out
       have x35 := cell_of_row (k := 35) g0 F35.out
       have y35 := cell_of_row (k := 35) g1 G35.out
       clear g0 g1
       go_wp2_with fail
       refine (CFg.out X0 (HB0.out.trans (HX0.out.mono HB0.out.size))).mono ?_
       rintro e X1 ⟨rfl, hbx⟩
       have HX1 : Hid (Below W0.heap.size W0 X1) := HX0.out.trans (hbx.mono HX0.out.size)
       clear hbx
       obtain ⟨g0, g1⟩ := HG.out X1 HX1.out
       have x39 := cell_of_row (k := 39) g0 F39.out
       have y39 := cell_of_row (k := 39) g1 G39.out
       clear g0 g1
       go_wp2_with fail
       refine (CRw.out X1 (HB0.out.trans (HX1.out.mono HB0.out.size))).mono ?_
       rintro e X2 ⟨rfl, hbx⟩
       have HX2 : Hid (Below W0.heap.size W0 X2) := HX1.out.trans (hbx.mono HX1.out.size)
       clear hbx
       obtain ⟨g0, g1⟩ := HG.out X2 HX2.out
       have x40 := cell_of_row (k := 40) g0 F40.out
       have y40 := cell_of_row (k := 40) g1 G40.out
       have x41 := cell_of_row (k := 41) g0 F41.out
       have y41 := cell_of_row (k := 41) g1 G41.out
       have x42 := cell_of_row (k := 42) g0 F42.out
       have y42 := cell_of_row (k := 42) g1 G42.out
       have x43 := cell_of_row (k := 43) g0 F43.out
       have y43 := cell_of_row (k := 43) g1 G43.out
       have x44 := cell_of_row (k := 44) g0 F44.out
       have y44 := cell_of_row (k := 44) g1 G44.out
       have x45 := cell_of_row (k := 45) g0 F45.out
       have y45 := cell_of_row (k := 45) g1 G45.out
       clear g0 g1
       go_wp2_with fail
       refine (CFl.out X2 (HB0.out.trans (HX2.out.mono HB0.out.size))).mono ?_
       rintro e X3 ⟨rfl, hbx⟩
       have HX3 : Hid (Below W0.heap.size W0 X3) := HX2.out.trans (hbx.mono HX2.out.size)
       clear hbx
       obtain ⟨g0, g1⟩ := HG.out X3 HX3.out
       have x46 := cell_of_row (k := 46) g0 F46.out
       have y46 := cell_of_row (k := 46) g1 G46.out
       clear g0 g1
       go_wp2_with fail
       refine (CCm.out X3 (HB0.out.trans (HX3.out.mono HB0.out.size))).mono ?_
       rintro e X4 ⟨rfl, hbx⟩
       have HX4 : Hid (Below W0.heap.size W0 X4) := HX3.out.trans (hbx.mono HX3.out.size)
       clear hbx
       go_wp2_with fail
       go_ret
       exact ⟨rfl, HB0.out.trans (HX4.out.mono HB0.out.size)⟩
end Go.Proofs.YtajomnfeicfdlaaGreatDoor
/- What the reference's Same of outboxes that are one answers; what Forget answers. -/
namespace Go.Proofs.YtajomnfeicfdlaaGreatDoor
open Go.Shelf Go.RowKit Go.Lib
set_option linter.unusedVariables false
set_option linter.unusedSimpArgs false
attribute [local go_sem ↓] Go.wp_at_zero Go.wp_at_succ
theorem wpQuiet_load_mid {P : Program} {ops : Array Oper} {C : World → Prop} {Q : Act → Prop} {a : Act} {op : Oper} {rest : List Oper} (hw : Region.wanted op (yielded ops a.tmps) = true) (ty : TypeId) (x : Operand) (ho : op.op = .load ty x)
  (b o : Nat) (hx : a.eval x = .pointer (some ⟨b, o, none⟩)) (cs : List Value) (d : TypeDesc) (hC : ∀ w, C w → w.rangeAt b o cs)
  (hu : P.underlying ty = some d) (hd : d.isRow = true) (hi : (P.info? ty).map (·.size) = some cs.length)
  (h : wpQuiet P ops C Q rest (a.put op.dst (.agg cs.toArray))) : wpQuiet P ops C Q (op :: rest) a := by
 unfold wpQuiet
 rw [if_pos hw]
 refine ⟨.agg cs.toArray, fun w hw' => ?_, h⟩
 unfold Oper.quietAt execOp
 simp only [ho, hx, Instr.loadAt, Instr.sureAddr, Sem.run_bind, Sem.run_pure, Result.andThen_ok, run_loadVar_mid w b o ty cs d (hC w hw') hu hd hi]
 exact ⟨rfl, rfl⟩
/-- The cells of one that was asked. -/
theorem aat {K : Nat → Prop} {w : World} {q : Option Addr} {n c : Nat} {xs : List (Int × Mg)} (h : ListIs rAsk 48 648 K w (.slice q n c) xs) (i : Nat) (hi : i < xs.length) : ∃ b o cl, q = some ⟨b, o, none⟩ ∧ K b ∧ cl.length = 47 ∧ MsgIs K w cl.toArray xs[i].2 ∧ I64 xs[i].1 ∧ w.cell? ⟨b, o + i * 48, none⟩ = some (.int .i64 xs[i].1) ∧ w.rangeAt b (o + i * 48 + 1) cl := by
 obtain ⟨q', c', e, _, hp⟩ := h
 obtain ⟨b, o, rfl, hKb, hc⟩ := hp (by omega)
 cases e
 obtain ⟨cs, _, hcell, cl, rfl, hl, h64, hm⟩ := hc i hi
 refine ⟨b, o, cl, rfl, hKb, hl, hm, h64, hcell 0 _ rfl, fun j u hj => ?_⟩
 have := hcell (j + 1) u (by simpa using hj)
 rwa [show o + i * 48 + (j + 1) = o + i * 48 + 1 + j by omega] at this
theorem alen {K : Nat → Prop} {w : World} {q : Option Addr} {n c : Nat} {xs : List (Int × Mg)} (h : ListIs rAsk 48 648 K w (.slice q n c) xs) : n = xs.length ∧ xs.length * 648 ≤ 140737488355328 := by
 obtain ⟨q', c', e, h2, _⟩ := h
 cases e
 exact ⟨rfl, h2⟩
theorem rat_below {W V : World} {b o n : Nat} {cs : List Value} (h : W.rangeAt b o cs) (hb : Below n W V) (hn : b < n) : V.rangeAt b o cs := fun j u hj => by
 rw [hb.cell (p := ⟨b, _, none⟩) hn]; exact h j u hj
set_option maxRecDepth 100000 in
set_option maxHeartbeats 8000000 in
theorem osame_eq (v u : Value) (xs : List (Int × Mg)) (K L : Nat → Prop) (w : World) (h : ListIs rAsk 48 648 K w v xs) (h' : ListIs rAsk 48 648 L w u xs) (hK : ∀ b, K b → b < w.heap.size) (hL : ∀ b, L b → b < w.heap.size) :
  Calls Tryz.prog 18 #[.agg #[v], .agg #[u]] w fun e w' => e = .returned (.bool true) ∧ Below w.heap.size w w' := by
 obtain ⟨q0, c0, rfl, hby, -⟩ := id h
 obtain ⟨q1, c1, rfl, -, -⟩ := id h'
 have H1 : Hid (ListIs rAsk 48 648 K w (.slice q0 xs.length c0) xs) := h
 have H2 : Hid (ListIs rAsk 48 648 L w (.slice q1 xs.length c1) xs) := h'
 have HKK : Hid ((∀ b, K b → b < w.heap.size) ∧ ∀ b, L b → b < w.heap.size) := ⟨hK, hL⟩
 have hx63 : xs.length ≤ 140737488355328 := by omega
 obtain ⟨W0, hW0, hb0, hs0, g0, g1⟩ := two_boxes w #[.slice q0 xs.length c0] #[.slice q1 xs.length c1] 38
 have HG : Hid (∀ V, Below W0.heap.size W0 V → V.cell? ⟨w.heap.size, 0, none⟩ = some (.slice q0 xs.length c0) ∧ V.cell? ⟨w.heap.size + 1, 0, none⟩ = some (.slice q1 xs.length c1) ∧ Below w.heap.size w V) := fun V hb => ⟨(hb.cell (p := ⟨w.heap.size, 0, none⟩) (by show w.heap.size < _; omega)).trans (cell_of_row g0 rfl), (hb.cell (p := ⟨w.heap.size + 1, 0, none⟩) (by show w.heap.size + 1 < _; omega)).trans (cell_of_row g1 rfl), hb0.trans (hb.mono hb0.size)⟩
 have zb : ((xs.length : Int) != (xs.length : Int)) = false := by simp
 have r0 := cell_of_row (k := 0) g0 rfl
 have r1 := cell_of_row (k := 0) g1 rfl
 clear h h' hK hL hby hb0 hs0 g0 g1
 go_enter Tryz.func18, Tryz.ntmps18
 go_wp2_with fail
 go_loopg [16] xs.length (fun gf s16 wx => ∃ (i : Nat), s16 = .int .i64 i ∧ i ≤ xs.length ∧ xs.length ≤ i + gf ∧ Hid (Below W0.heap.size W0 wx))
 case atStart => exact ⟨0, rfl, by omega, by omega, Below.refl _ _⟩
 case round =>
  obtain ⟨i, rfl, hi1, hgf, HB⟩ := hrel
  by_cases hi : i < xs.length
  ·obtain ⟨g', rfl⟩ : ∃ g', gk = g' + 1 := ⟨gk - 1, by omega⟩
   obtain ⟨b, o, ca, rfl, hKb, hla, hma, h64, ka, ra⟩ := aat H1.out i hi
   obtain ⟨b2, o2, cb, rfl, hLb, hlb, hmb, _, kb, rb⟩ := aat H2.out i hi
   obtain ⟨⟨tn, m⟩, hx⟩ : ∃ x, xs[i] = x := ⟨_, rfl⟩
   rw [hx] at hma hmb ka kb
   simp only at hma hmb ka kb
   have hbl : b < w.heap.size := HKK.out.1 b hKb
   have hbl2 : b2 < w.heap.size := HKK.out.2 b2 hLb
   have HS : Hid (∀ p : LaterS wr.heap.size wr, p.w.cell? ⟨w.heap.size, 0, none⟩ = some (.slice (some ⟨b, o, none⟩) xs.length c0) ∧ p.w.cell? ⟨w.heap.size + 1, 0, none⟩ = some (.slice (some ⟨b2, o2, none⟩) xs.length c1) ∧ p.w.cell? ⟨b, o + i * 48, none⟩ = some (.int .i64 tn) ∧ p.w.cell? ⟨b2, o2 + i * 48, none⟩ = some (.int .i64 tn) ∧ p.w.rangeAt b (o + i * 48 + 1) ca ∧ p.w.rangeAt b2 (o2 + i * 48 + 1) cb ∧ Below w.heap.size w p.w) := fun p => by
    obtain ⟨t1, t2, t3⟩ := HG.out p.w (HB.out.trans (p.h.mono HB.out.size))
    exact ⟨t1, t2, (t3.cell (p := ⟨b, _, none⟩) hbl).trans ka, (t3.cell (p := ⟨b2, _, none⟩) hbl2).trans kb, rat_below ra t3 hbl, rat_below rb t3 hbl2, t3⟩
   have cS : Hid (∀ p : LaterS wr.heap.size wr, Calls Tryz.prog 31 #[.agg ca.toArray, .agg cb.toArray] p.w fun e w' => e = .returned (.bool true) ∧ Below p.w.heap.size p.w w') := fun p => by
    have t3 := (HS.out p).2.2.2.2.2.2
    exact same_eq ca.toArray cb.toArray m K L p.w (hma.keep (fun _ h => h) (kept_of HKK.out.1 t3)) (hmb.keep (fun _ h => h) (kept_of HKK.out.2 t3)) (fun b hb => Nat.lt_of_lt_of_le (HKK.out.1 b hb) t3.size) (fun b hb => Nat.lt_of_lt_of_le (HKK.out.2 b hb) t3.size)
   have I63a : Hid ((Tryz.prog.info? 63).map (·.size) = some ca.length) := by show _ = _; rw [hla]; exact size49
   have I63b : Hid ((Tryz.prog.info? 63).map (·.size) = some cb.length) := by show _ = _; rw [hlb]; exact size49
   have z0 : (0 : Int) ≤ (i : Int) := by omega
   have z1 : (i : Int) < (xs.length : Int) := by omega
   have zt : (tn != tn) = false := by simp
   clear hx hma hmb ka kb ra rb hKb hLb h64 hla hlb hbl hbl2
   go_wp2_with fail
   have m0 := fun p => (HS.out p).1
   have m1 := fun p => (HS.out p).2.1
   have m2 := fun p => (HS.out p).2.2.1
   have m3 := fun p => (HS.out p).2.2.2.1
   have inhL := laterInh
   refine wp_region_laterS mixedOnS (by kernel_rfl) ?_
   repeat (first
    | (refine wpQuiet_load_mid rfl 63 _ rfl b (o + i * 48 + 1) rfl ca _ (fun w hw => by obtain ⟨p, rfl⟩ := hw; exact (HS.out p).2.2.2.2.1) Tryz.underlying63 rfl I63a.out ?_; simp only [Act.put, List.getElem_toArray, List.getElem_cons_zero, List.getElem_cons_succ, List.setIfInBounds_toArray, List.set_cons_zero, List.set_cons_succ])
    | (refine wpQuiet_load_mid rfl 63 _ rfl b2 (o2 + i * 48 + 1) rfl cb _ (fun w hw => by obtain ⟨p, rfl⟩ := hw; exact (HS.out p).2.2.2.2.2.1) Tryz.underlying63 rfl I63b.out ?_; simp only [Act.put, List.getElem_toArray, List.getElem_cons_zero, List.getElem_cons_succ, List.setIfInBounds_toArray, List.set_cons_zero, List.set_cons_succ])
    | go_big_quiet_step ((go_at_call 31; exact calls_laterS (cS.out _))))
   refine wpQuiet_nil ?_
   intro w2 hw'
   obtain ⟨⟨wq, hwq⟩, hw''⟩ := hw'
   have e2 : w2 = wq := hw''
   subst e2
   have HB2 : Hid (Below W0.heap.size W0 w2) := HB.out.trans (hwq.mono HB.out.size)
   clear hw'' hwq m0 m1 m2 m3 HS cS
   go_wp2_with fail
   go_roundg g'
   case measure => omega
   case rel => exact ⟨i + 1, by go_num, by omega, by omega, HB2⟩
  ·have z1 : ¬ (i : Int) < (xs.length : Int) := by omega
   have HF : Hid (Below w.heap.size w wr) := (HG.out wr HB.out).2.2
   go_wp2_with fail
   go_ret
   exact ⟨rfl, HF.out⟩
end Go.Proofs.YtajomnfeicfdlaaGreatDoor
