/- Memory that is spoilt: numbers and texts are others, all else is as it was. -/
import Derived.Test.YtgdjhkcllpkiiaaGreatDoorViVjVk
import Derived.Test.YtgdjhkcllpkiiaaGreatDoorSf
import Derived.Test.YtgdjhkcllpkiiaaGreatDoorNcNd
namespace Go.Proofs.YtgdjhkcllpkiiaaGreatDoor
open Go.Shelf Go.RowKit Go.Lib
set_option linter.unusedVariables false
set_option linter.unusedSimpArgs false
attribute [local go_sem ↓] Go.wp_at_zero Go.wp_at_succ
/-- A value in another's place. -/
def Alike (v v' : Value) : Prop := v' = v ∨ (∃ n m, v = .int .i64 n ∧ v' = .int .i64 m) ∨ ∃ s t, v = .string s ∧ v' = .string t
theorem Alike.trans {a b c : Value} (h : Alike a b) (h' : Alike b c) : Alike a c := by
  rcases h with rfl | ⟨n, m, rfl, rfl⟩ | ⟨s, t, rfl, rfl⟩
  · exact h'
  · rcases h' with rfl | ⟨n', m', _, rfl⟩ | ⟨s', t', h1, rfl⟩
    · exact .inr (.inl ⟨n, m, rfl, rfl⟩)
    · exact .inr (.inl ⟨n, m', rfl, rfl⟩)
    · cases h1
  · rcases h' with rfl | ⟨n', m', h1, rfl⟩ | ⟨s', t', _, rfl⟩
    · exact .inr (.inr ⟨s, t, rfl, rfl⟩)
    · cases h1
    · exact .inr (.inr ⟨s, t', rfl, rfl⟩)
/-- Spoilt in the blocks of N alone. -/
structure Spo (N : Nat → Prop) (W W' : World) : Prop where
  os : W'.os = W.os
  tape : W'.tape = W.tape
  output : W'.output = W.output
  size : W'.heap.size = W.heap.size
  oth : ∀ b, ¬ N b → W'.heap[b]? = W.heap[b]?
  unf : ∀ b, N b → Unf W' b
  al : ∀ b k v, W.cell? ⟨b, k, none⟩ = some v → ∃ v', W'.cell? ⟨b, k, none⟩ = some v' ∧ Alike v v'
theorem Spo.refl {N : Nat → Prop} {W : World} (h : ∀ b, N b → Unf W b) : Spo N W W := ⟨rfl, rfl, rfl, rfl, fun _ _ => rfl, h, fun b k v hv => ⟨v, hv, .inl rfl⟩⟩
theorem Spo.set {N : Nat → Prop} {W W' : World} (h : Spo N W W') {b k : Nat} (hb : N b) {u v : Value} (hc : W'.cell? ⟨b, k, none⟩ = some u) (ha : Alike u v) : Spo N W (W'.setCell ⟨b, k, none⟩ v) := by
  obtain ⟨a1, a2, a3, a4, a5⟩ := setCell_any W' b k v
  refine ⟨a2.trans h.os, a3.trans h.tape, a4.trans h.output, a1.trans h.size, fun c hc => (a5 c (fun e => hc (e ▸ hb))).trans (h.oth c hc), fun c hc k' => by rw [World.frozen?_setCell]; exact h.unf c hc k', fun c k' z hz => ?_⟩
  obtain ⟨z', e1, e2⟩ := h.al c k' z hz
  by_cases e : (⟨b, k, none⟩ : Addr) = ⟨c, k', none⟩
  · rw [← e, hc] at e1
    cases e1
    exact ⟨v, by rw [← e]; exact World.cell?_setCell_same _ _ _ hc, e2.trans ha⟩
  · exact ⟨z', by rw [World.cell?_setCell_other _ _ _ _ e]; exact e1, e2⟩
theorem Spo.slice {N : Nat → Prop} {W W' : World} (h : Spo N W W') {b k n c : Nat} {p : Option Addr} (hc : W.cell? ⟨b, k, none⟩ = some (.slice p n c)) : W'.cell? ⟨b, k, none⟩ = some (.slice p n c) := by
  obtain ⟨v, h1, rfl | ⟨_, _, e, _⟩ | ⟨_, _, e, _⟩⟩ := h.al _ _ _ hc
  · exact h1
  · cases e
  · cases e
theorem Spo.int {N : Nat → Prop} {W W' : World} (h : Spo N W W') {b k : Nat} {n : Int} (hc : W.cell? ⟨b, k, none⟩ = some (.int .i64 n)) : ∃ m, W'.cell? ⟨b, k, none⟩ = some (.int .i64 m) := by
  obtain ⟨v, h1, rfl | ⟨_, m, _, rfl⟩ | ⟨_, _, e, _⟩⟩ := h.al _ _ _ hc
  · exact ⟨_, h1⟩
  · exact ⟨m, h1⟩
  · cases e
theorem Spo.text {N : Nat → Prop} {W W' : World} (h : Spo N W W') {b k : Nat} {s : ByteArray} (hc : W.cell? ⟨b, k, none⟩ = some (.string s)) : ∃ t, W'.cell? ⟨b, k, none⟩ = some (.string t) := by
  obtain ⟨v, h1, rfl | ⟨_, _, e, _⟩ | ⟨_, t, _, rfl⟩⟩ := h.al _ _ _ hc
  · exact ⟨_, h1⟩
  · cases e
  · exact ⟨t, h1⟩
theorem Spo.cell {N : Nat → Prop} {W W' : World} (h : Spo N W W') {b k : Nat} (hb : ¬ N b) : W'.cell? ⟨b, k, none⟩ = W.cell? ⟨b, k, none⟩ := World.cell?_of_block (h.oth b hb)
theorem Spo.kept {N K : Nat → Prop} {W W' : World} (h : Spo N W W') (hK : ∀ b, K b → ¬ N b) : Kept K W W' := ⟨h.os, h.tape, h.output, by rw [h.size]; exact Nat.le_refl _, fun b hb => h.oth b (hK b hb)⟩
theorem Spo.below {N : Nat → Prop} {B : Nat} {w W W' : World} (h : Spo N W W') (hN : ∀ b, N b → B ≤ b) (hb : Below B w W) : Below B w W' :=
  ⟨h.os.trans hb.os, h.tape.trans hb.tape, h.output.trans hb.output, by rw [h.size]; exact hb.size, fun b hbb => (h.oth b (fun e => by have := hN b e; omega)).trans (hb.block b hbb)⟩
end Go.Proofs.YtgdjhkcllpkiiaaGreatDoor
/- What WireOwn answers, once what is read is told to be free. -/
namespace Go.Proofs.YtgdjhkcllpkiiaaGreatDoor
open Go.Shelf Go.RowKit Go.Lib
set_option linter.unusedVariables false
set_option linter.unusedSimpArgs false
attribute [local go_sem ↓] Go.wp_at_zero Go.wp_at_succ
theorem wpList_load_midH {P : Program} {ops : Array Oper} {rest : List Oper} {op : Oper} {a : Act} {w : World} {Q : Exit → Act → World → Prop} (hw : Region.wanted op (yielded ops a.tmps) = true) (ty : TypeId) (x : Operand) (ho : op.op = .load ty x) (b o : Nat) (hx : a.eval x = .pointer (some ⟨b, o, none⟩)) (cs : List Value) (d : TypeDesc) (hc : w.rangeAt b o cs) (hu : P.underlying ty = some d) (hd : d.isRow = true) (hi : (P.info? ty).map (·.size) = some cs.length) (h : wpList P ops Q rest (a.put op.dst (.agg cs.toArray)) w) : wpList P ops Q (op :: rest) a w :=
  wpList_step fun K hK => by rw [if_pos hw]; exact wp_load_mid ty x ho b o hx cs d hc hu hd hi (hK _ _ h)
set_option maxRecDepth 100000 in
set_option maxHeartbeats 16000000 in
theorem own_free (s : ByteArray) (w : World) (hT : Lib.Utf8Tabs 0 1 w) (h2 : 1 < w.heap.size) (hR : ∀ W, Lib.Utf8Tabs 0 1 W → 1 < W.heap.size → Calls Tryz.prog 10 #[.string s] W fun e w' => RdU s W e w') :
    Calls Tryz.prog 6 #[.string s] w fun e w' => e = .returned (.bool true) ∧ Below w.heap.size w w' := by
  have HR : Hid (∀ W, Lib.Utf8Tabs 0 1 W → 1 < W.heap.size → Calls Tryz.prog 10 #[.string s] W fun e w' => RdU s W e w') := hR
  have HT : Hid (∀ W, Below w.heap.size w W → Lib.Utf8Tabs 0 1 W ∧ 1 < W.heap.size) := fun W hb => ⟨Utf8Tabs.later hT h2 hb, Nat.lt_of_lt_of_le h2 hb.size⟩
  have C1 := hid (lives_any w hT h2)
  obtain ⟨x, hx⟩ : ∃ x, rdM s = x := ⟨_, rfl⟩
  obtain ⟨r, hr⟩ : ∃ r, rdE s = r := ⟨_, rfl⟩
  have HX : Hid (rdM s = x ∧ rdE s = r) := ⟨hx, hr⟩
  clear hT h2 hR hx hr
  go_enter Tryz.func6, Tryz.ntmps6
  go_wp2_with fail
  refine C1.out.mono ?_
  rintro e w1 ⟨rfl, hb1⟩
  have HB1 : Hid (Below w.heap.size w w1) := hb1
  have C2 := hid (HR.out w1 (HT.out w1 hb1).1 (HT.out w1 hb1).2)
  clear hb1 C1
  go_wp2_with fail
  refine C2.out.mono ?_
  rintro e w2 ⟨cl, N, rfl, hl, hN, hm, hb2⟩
  rw [HX.out.1] at hm
  rw [HX.out.2]
  obtain ⟨WA, hWA, hth, WS, hWS, hrs, hss, hbs⟩ := new_box w2 cl hl
  have hNS : ∀ b, N b → b < WS.heap.size := fun b hb => by have := (hN b hb).2.1; omega
  have hmS : MsgIs N WS cl.toArray x := hm.keep (fun _ h => h) (kept_of (fun b hb => (hN b hb).2.1) hbs)
  have C7 := hid (copy_any cl x N WS hmS hNS)
  have HTH : Hid (WA.there w2.heap.size 0 cl.toArray.size) := hth
  have HWS : Hid (WA.setCells w2.heap.size 0 cl.toArray.toList = WS) := hWS
  have HI : Hid ((Tryz.prog.info? 49).map (·.size) = some cl.toArray.size) := by show _ = _; rw [show cl.toArray.size = 47 by simpa using hl]; exact size49
  have HJ : Hid ((Tryz.prog.info? 49).map (·.size) = some cl.length) := by show _ = _; rw [hl]; exact size49
  have HON : Hid (cl.toArray.all (·.oneCell') = true) := msg_one hm
  have HRS : Hid (WS.rangeAt w2.heap.size 0 cl) := hrs
  have HB2 : Hid (Below w1.heap.size w1 w2) := hb2
  have HN : Hid (∀ b, N b → w1.heap.size ≤ b ∧ b < w2.heap.size ∧ Unf w2 b) := hN
  have HS : Hid (WS.heap.size = w2.heap.size + 1 ∧ Below w2.heap.size w2 WS ∧ MsgIs N WS cl.toArray x) := ⟨hss, hbs, hmS⟩
  clear hl hN hm hb2 hth hWS hrs hss hbs hNS hmS C2
  unfold zc at hWA
  go_wp2_with (first | (refine wpList_store_mid rfl 49 _ _ rfl w2.heap.size 0 cl.toArray rfl rfl HTH.out HI.out HON.out ?_; rw [HWS.out]) | (refine wpList_load_mid rfl 49 _ rfl w2.heap.size 0 rfl cl _ HRS.out Tryz.underlying49 rfl HJ.out ?_))
  refine C7.out.mono ?_
  rintro e w3 ⟨cl3, rfl, hl3, hm3, hb3⟩
  obtain ⟨WB, hWB, hth3, V, hWV, hrs3, hss3, hbs3⟩ := new_box w3 cl3 hl3
  obtain ⟨hsA, hbA, hmA⟩ := HS.out
  have hbV : Below WS.heap.size WS V := hb3.trans (hbs3.mono hb3.size)
  have hVs : V.heap.size = w3.heap.size + 1 := hss3
  have h3s := hb3.size
  have hmV : MsgIs N V cl.toArray x := hmA.keep (fun _ h => h) (kept_of (fun b hb => by have := (HN.out b hb).2.1; omega) hbV)
  have hb2V : Below w2.heap.size w2 V := hbA.trans (hbV.mono hbA.size)
  have HU : Hid (∀ b, N b → Unf V b) := fun b hb k => by rw [hb2V.frozen (p := ⟨b, k, none⟩) (HN.out b hb).2.1]; exact (HN.out b hb).2.2 k
  have HNA : Hid (¬ N w2.heap.size) := fun hb => by have := (HN.out _ hb).2.1; omega
  have HNB : Hid (¬ N w3.heap.size) := fun hb => by have := (HN.out _ hb).2.1; omega
  have HRA : Hid (∀ (j : Nat) (v : Value), cl[j]? = some v → V.cell? ⟨w2.heap.size, j, none⟩ = some v) := fun j v hv => by
    rw [hbV.cell (p := ⟨w2.heap.size, j, none⟩) (by show w2.heap.size < _; omega)]
    have := HRS.out j v hv
    simpa using this
  have HK3 : Hid (∀ b, From WS.heap.size w3 b → ¬ N b) := fun b hb hn => by have := hb.1; have := (HN.out b hn).2.1; omega
  have HM3 : Hid (MsgIs (From WS.heap.size w3) V cl3.toArray x) := hm3.keep (fun _ h => h) (kept_of (fun b h => h.2) hbs3)
  have HTH3 : Hid (WB.there w3.heap.size 0 cl3.toArray.size) := hth3
  have HWV : Hid (WB.setCells w3.heap.size 0 cl3.toArray.toList = V) := hWV
  have HI3 : Hid ((Tryz.prog.info? 49).map (·.size) = some cl3.toArray.size) := by show _ = _; rw [show cl3.toArray.size = 47 by simpa using hl3]; exact size49
  have HJ3 : Hid ((Tryz.prog.info? 49).map (·.size) = some cl3.length) := by show _ = _; rw [hl3]; exact size49
  have HON3 : Hid (cl3.toArray.all (·.oneCell') = true) := msg_one hm3
  have HRB : Hid (V.rangeAt w3.heap.size 0 cl3) := hrs3
  have HBV : Hid (Below w.heap.size w V) := HB1.out.trans ((HB2.out.trans (hb2V.mono HB2.out.size)).mono HB1.out.size)
  have HNw : Hid (∀ b, N b → w.heap.size ≤ b) := fun b hb => by have := (HN.out b hb).1; have := HB1.out.size; omega
  have HV3 : Hid (V.heap.size = w3.heap.size + 1) := hVs
  obtain ⟨_, _, cr, vr, rfl, hrw⟩ := hmV.rw_
  obtain ⟨_, _, cn, vn, rfl, hnd⟩ := hmV.nd
  obtain ⟨_, _, cc, vc, rfl, hcm⟩ := hmV.cm
  have CR : Hid (V.cell? ⟨w2.heap.size, 39, none⟩ = some vr) := HRA.out 39 vr (by have := cr 0 vr rfl; simpa using this)
  have CN : Hid (V.cell? ⟨w2.heap.size, 36, none⟩ = some vn) := HRA.out 36 vn (by have := cn 0 vn rfl; simpa using this)
  have CC : Hid (V.cell? ⟨w2.heap.size, 46, none⟩ = some vc) := HRA.out 46 vc (by have := cc 0 vc rfl; simpa using this)
  obtain ⟨xs, hxs⟩ : ∃ xs, x.rw = xs := ⟨_, rfl⟩
  obtain ⟨ys, hys⟩ : ∃ ys, x.nd = ys := ⟨_, rfl⟩
  obtain ⟨zs, hzs⟩ : ∃ zs, x.cm = zs := ⟨_, rfl⟩
  rw [hxs] at hrw
  rw [hys] at hnd
  rw [hzs] at hcm
  obtain ⟨p, c, rfl, hby, hp⟩ := hrw
  obtain ⟨pn, qn, rfl, hbn, hpn⟩ := hnd
  obtain ⟨pc, qc, rfl, hbc, hpc⟩ := hcm
  have HP : Hid (0 < xs.length → ∃ b o, p = some ⟨b, o, none⟩ ∧ N b ∧ ∀ (j : Nat) (h : j < xs.length), ∃ cs, cs.length = 1 ∧ (∀ (i : Nat) (u : Value), cs[i]? = some u → V.cell? ⟨b, o + j * 1 + i, none⟩ = some u) ∧ rRow N V cs xs[j]) := hp
  have HPN : Hid (0 < ys.length → ∃ b o, pn = some ⟨b, o, none⟩ ∧ N b ∧ ∀ (j : Nat) (h : j < ys.length), ∃ cs, cs.length = 1 ∧ (∀ (i : Nat) (u : Value), cs[i]? = some u → V.cell? ⟨b, o + j * 1 + i, none⟩ = some u) ∧ rInt N V cs ys[j]) := hpn
  have HPC : Hid (0 < zs.length → ∃ b o, pc = some ⟨b, o, none⟩ ∧ N b ∧ ∀ (j : Nat) (h : j < zs.length), ∃ cs, cs.length = 5 ∧ (∀ (i : Nat) (u : Value), cs[i]? = some u → V.cell? ⟨b, o + j * 5 + i, none⟩ = some u) ∧ rClm N V cs zs[j]) := hpc
  have hx63 : xs.length ≤ 140737488355328 := by omega
  have hy63 : ys.length ≤ 140737488355328 := by omega
  have hz63 : zs.length ≤ 140737488355328 := by omega
  have c39 := CR.out
  clear hl3 hm3 hb3 hth3 hWV hrs3 hss3 hbs3 hsA hbA hmA hbV hVs h3s hmV hb2V cr cn cc hby hbn hbc hp hpn hpc hxs hys hzs HTH HWS HI HJ HON HRS C7 HS HRA hWA
  unfold zc at hWB
  go_wp2_with (refine wpList_store_mid rfl 49 _ _ rfl w3.heap.size 0 cl3.toArray rfl rfl HTH3.out HI3.out HON3.out ?_; rw [HWV.out])
  clear hWB HTH3 HWV HI3 HON3 c39
  go_loopg [24] xs.length (fun gf s24 wx => ∃ i : Nat, s24 = .int .i64 i ∧ i ≤ xs.length ∧ xs.length ≤ i + gf ∧ Hid (Spo N V wx))
  case atStart => exact ⟨0, rfl, by omega, by omega, Spo.refl HU.out⟩
  case round =>
    obtain ⟨i, rfl, hi1, hgf, HP0⟩ := hrel
    by_cases hi : i < xs.length
    · obtain ⟨g1, rfl⟩ : ∃ g1, gk = g1 + 1 := ⟨gk - 1, by omega⟩
      obtain ⟨b, o, rfl, hNb, hc⟩ := HP.out (by omega)
      obtain ⟨cs, hcl, hcell, hrel1⟩ := hc i hi
      obtain ⟨y, hy⟩ : ∃ y, xs[i] = y := ⟨_, rfl⟩
      rw [hy] at hrel1
      obtain ⟨_, rfl, hlr⟩ := hrel1
      obtain ⟨p', c', rfl, hb', hp'⟩ := hlr
      have hd0 : V.cell? ⟨b, o + i, none⟩ = some (.slice p' y.length c') := by
        have := hcell 0 _ rfl
        simpa using this
      have HD : Hid (V.cell? ⟨b, o + i, none⟩ = some (.slice p' y.length c')) := hd0
      have d39 : wr.cell? ⟨w2.heap.size, 39, none⟩ = some (.slice (some ⟨b, o, none⟩) xs.length c) := (HP0.out.cell HNA.out).trans CR.out
      have d0 : wr.cell? ⟨b, o + i, none⟩ = some (.slice p' y.length c') := HP0.out.slice hd0
      have HPP : Hid (0 < y.length → ∃ b o, p' = some ⟨b, o, none⟩ ∧ N b ∧ ∀ (j : Nat) (h : j < y.length), ∃ cs, cs.length = 4 ∧ (∀ (i : Nat) (u : Value), cs[i]? = some u → V.cell? ⟨b, o + j * 4 + i, none⟩ = some u) ∧ rVal N V cs y[j]) := hp'
      have z0 : (0 : Int) ≤ (i : Int) := by omega
      have z1 : (i : Int) < (xs.length : Int) := by omega
      have hy63' : y.length ≤ 140737488355328 := by omega
      clear hc hcl hcell hy hb' hp' hd0
      go_wp2_with fail
      clear d39 d0
      obtain ⟨V0, hV0⟩ : ∃ V0, V0 = wr := ⟨_, rfl⟩
      subst hV0
      go_loopg [33] y.length (fun gf s33 wx => ∃ k : Nat, s33 = .int .i64 k ∧ k ≤ y.length ∧ y.length ≤ k + gf ∧ Hid (Spo N V wx))
      case atStart => exact ⟨0, rfl, by omega, by omega, HP0⟩
      case round =>
        clear HP0
        obtain ⟨k, rfl, hk1, hgk, HP0⟩ := hrel
        have d39 : wr.cell? ⟨w2.heap.size, 39, none⟩ = some (.slice (some ⟨b, o, none⟩) xs.length c) := (HP0.out.cell HNA.out).trans CR.out
        have d0 : wr.cell? ⟨b, o + i, none⟩ = some (.slice p' y.length c') := HP0.out.slice HD.out
        by_cases hk : k < y.length
        · obtain ⟨g2, rfl⟩ : ∃ g2, gk = g2 + 1 := ⟨gk - 1, by omega⟩
          obtain ⟨b', o', rfl, hNb', hc'⟩ := HPP.out (by omega)
          obtain ⟨cs', hcl', hcell', hrel'⟩ := hc' k hk
          obtain ⟨rfl, _, _, _⟩ := hrel'
          obtain ⟨m, e2⟩ := HP0.out.int (hcell' 2 _ rfl)
          have f2 := HP0.out.unf b' hNb' (o' + k * 4 + 2)
          have HNb' : Hid (N b') := hNb'
          have z2 : (0 : Int) ≤ (k : Int) := by omega
          have z3 : (k : Int) < (y.length : Int) := by omega
          have HE : Hid (wr.cell? ⟨b', o' + k * 4 + 2, none⟩ = some (.int .i64 m)) := e2
          clear hc' hcl' hcell' hNb'
          go_wp2_with fail
          go_roundg g2
          case measure => omega
          case rel => exact ⟨k + 1, by go_num, by omega, by omega, HP0.out.set HNb'.out HE.out (.inr (.inl ⟨_, _, rfl, rfl⟩))⟩
        · have z3 : ¬ (k : Int) < (y.length : Int) := by omega
          go_wp2_with fail
          go_roundg g1
          case measure => omega
          case rel => exact ⟨i + 1, by go_num, by omega, by omega, HP0⟩
    · have z1 : ¬ (i : Int) < (xs.length : Int) := by omega
      have d36 : wr.cell? ⟨w2.heap.size, 36, none⟩ = some (.slice pn ys.length qn) := (HP0.out.cell HNA.out).trans CN.out
      go_wp2_with fail
      clear d36 z1 hi hi1 hgf
      obtain ⟨V1, hV1⟩ : ∃ V1, V1 = wr := ⟨_, rfl⟩
      subst hV1
      go_loopg [53] ys.length (fun gf s53 wx => ∃ i : Nat, s53 = .int .i64 i ∧ i ≤ ys.length ∧ ys.length ≤ i + gf ∧ Hid (Spo N V wx))
      case atStart => exact ⟨0, rfl, by omega, by omega, HP0⟩
      case round =>
        clear HP0
        obtain ⟨i, rfl, hi1, hgf, HP0⟩ := hrel
        have d36 : wr.cell? ⟨w2.heap.size, 36, none⟩ = some (.slice pn ys.length qn) := (HP0.out.cell HNA.out).trans CN.out
        by_cases hi : i < ys.length
        · obtain ⟨g1, rfl⟩ : ∃ g1, gk = g1 + 1 := ⟨gk - 1, by omega⟩
          obtain ⟨b, o, rfl, hNb, hc⟩ := HPN.out (by omega)
          obtain ⟨cs, hcl, hcell, hrel1⟩ := hc i hi
          obtain ⟨rfl, _⟩ := hrel1
          have hv : V.cell? ⟨b, o + i, none⟩ = some (.int .i64 ys[i]) := by
            have := hcell 0 _ rfl
            simpa using this
          obtain ⟨m, e2⟩ := HP0.out.int hv
          have f2 := HP0.out.unf b hNb (o + i)
          have HNb : Hid (N b) := hNb
          have HE : Hid (wr.cell? ⟨b, o + i, none⟩ = some (.int .i64 m)) := e2
          have z0 : (0 : Int) ≤ (i : Int) := by omega
          have z1 : (i : Int) < (ys.length : Int) := by omega
          clear hc hcl hcell hNb hv
          go_wp2_with fail
          go_roundg g1
          case measure => omega
          case rel => exact ⟨i + 1, by go_num, by omega, by omega, HP0.out.set HNb.out HE.out (.inr (.inl ⟨_, _, rfl, rfl⟩))⟩
        · have z1 : ¬ (i : Int) < (ys.length : Int) := by omega
          have d46 : wr.cell? ⟨w2.heap.size, 46, none⟩ = some (.slice pc zs.length qc) := (HP0.out.cell HNA.out).trans CC.out
          go_wp2_with fail
          clear d36 d46 z1 hi hi1 hgf
          obtain ⟨V2, hV2⟩ : ∃ V2, V2 = wr := ⟨_, rfl⟩
          subst hV2
          go_loopg [67] zs.length (fun gf s67 wx => ∃ i : Nat, s67 = .int .i64 i ∧ i ≤ zs.length ∧ zs.length ≤ i + gf ∧ Hid (Spo N V wx))
          case atStart => exact ⟨0, rfl, by omega, by omega, HP0⟩
          case round =>
            clear HP0
            obtain ⟨i, rfl, hi1, hgf, HP0⟩ := hrel
            have d46 : wr.cell? ⟨w2.heap.size, 46, none⟩ = some (.slice pc zs.length qc) := (HP0.out.cell HNA.out).trans CC.out
            by_cases hi : i < zs.length
            · obtain ⟨g1, rfl⟩ : ∃ g1, gk = g1 + 1 := ⟨gk - 1, by omega⟩
              obtain ⟨b, o, rfl, hNb, hc⟩ := HPC.out (by omega)
              obtain ⟨cs, hcl, hcell, hrel1⟩ := hc i hi
              obtain ⟨_, _, rfl, _⟩ := hrel1
              have hv : V.cell? ⟨b, o + i * 5, none⟩ = some (.string zs[i].t) := by
                have := hcell 0 _ rfl
                simpa using this
              obtain ⟨m, e2⟩ := HP0.out.text hv
              have f2 := HP0.out.unf b hNb (o + i * 5)
              have HNb : Hid (N b) := hNb
              have HE : Hid (wr.cell? ⟨b, o + i * 5, none⟩ = some (.string m)) := e2
              have z0 : (0 : Int) ≤ (i : Int) := by omega
              have z1 : (i : Int) < (zs.length : Int) := by omega
              clear hc hcl hcell hNb hv
              go_wp2_with fail
              go_roundg g1
              case measure => omega
              case rel => exact ⟨i + 1, by go_num, by omega, by omega, HP0.out.set HNb.out HE.out (.inr (.inr ⟨_, _, rfl, rfl⟩))⟩
            · have z1 : ¬ (i : Int) < (zs.length : Int) := by omega
              have HBr : Hid (Below w.heap.size w wr) := HP0.out.below HNw.out HBV.out
              have C3 := hid (HR.out wr (HT.out wr HBr.out).1 (HT.out wr HBr.out).2)
              clear d46
              go_wp2_with fail
              refine C3.out.mono ?_
              rintro e w5 ⟨cl5, N5, rfl, hl5, hN5, hm5, hb5⟩
              rw [HX.out.1] at hm5
              rw [HX.out.2]
              obtain ⟨WC, hWC, hth5, W6, hW6, hrs5, hss5, hbs5⟩ := new_box w5 cl5 hl5
              have hsr := HP0.out.size
              have hs5 := hb5.size
              have hr6 : Below wr.heap.size wr W6 := hb5.trans (hbs5.mono hb5.size)
              have hm6 : MsgIs N5 W6 cl5.toArray x := hm5.keep (fun _ h => h) (kept_of (fun b hb => (hN5 b hb).2.1) hbs5)
              have hmr : MsgIs (From WS.heap.size w3) wr cl3.toArray x := HM3.out.keep (fun _ h => h) (HP0.out.kept HK3.out)
              have hlt3 : ∀ b, From WS.heap.size w3 b → b < wr.heap.size := fun b hb => by have := hb.2; have := HV3.out; omega
              have hm36 : MsgIs (From WS.heap.size w3) W6 cl3.toArray x := hmr.keep (fun _ h => h) (kept_of hlt3 hr6)
              have CS := hid (same_eq cl5.toArray cl3.toArray x N5 (From WS.heap.size w3) W6 hm6 hm36 (fun b hb => by have := (hN5 b hb).2.1; omega) (fun b hb => Nat.lt_of_lt_of_le (hlt3 b hb) hr6.size))
              have HRB6 : Hid (W6.rangeAt w3.heap.size 0 cl3) := fun j v hv => by
                rw [hr6.cell (p := ⟨w3.heap.size, 0 + j, none⟩) (by show w3.heap.size < _; have := HV3.out; omega), HP0.out.cell HNB.out]
                exact HRB.out j v hv
              have HTH5 : Hid (WC.there w5.heap.size 0 cl5.toArray.size) := hth5
              have HW6 : Hid (WC.setCells w5.heap.size 0 cl5.toArray.toList = W6) := hW6
              have HI5 : Hid ((Tryz.prog.info? 49).map (·.size) = some cl5.toArray.size) := by show _ = _; rw [show cl5.toArray.size = 47 by simpa using hl5]; exact size49
              have HJ5 : Hid ((Tryz.prog.info? 49).map (·.size) = some cl5.length) := by show _ = _; rw [hl5]; exact size49
              have HON5 : Hid (cl5.toArray.all (·.oneCell') = true) := msg_one hm5
              have HRS5 : Hid (W6.rangeAt w5.heap.size 0 cl5) := hrs5
              have HB6 : Hid (Below w.heap.size w W6) := HBr.out.trans (hr6.mono HBr.out.size)
              clear hl5 hN5 hm5 hb5 hth5 hW6 hrs5 hss5 hbs5 hsr hs5 hr6 hm6 hmr hlt3 hm36 C3
              unfold zc at hWC
              go_wp2_with (first | (refine wpList_store_mid rfl 49 _ _ rfl w5.heap.size 0 cl5.toArray rfl rfl HTH5.out HI5.out HON5.out ?_; rw [HW6.out]) | (refine wpList_load_midH rfl 49 _ rfl w5.heap.size 0 rfl cl5 _ HRS5.out Tryz.underlying49 rfl HJ5.out ?_) | (refine wpList_load_midH rfl 49 _ rfl w3.heap.size 0 rfl cl3 _ HRB6.out Tryz.underlying49 rfl HJ3.out ?_))
              refine CS.out.mono ?_
              rintro e w7 ⟨rfl, hb7⟩
              have HB7 : Hid (Below w.heap.size w w7) := HB6.out.trans (hb7.mono HB6.out.size)
              clear hb7 CS
              go_wp2_with fail
              go_ret
              exact ⟨rfl, HB7.out⟩
end Go.Proofs.YtgdjhkcllpkiiaaGreatDoor
/- What WireOwn answers. -/
namespace Go.Proofs.YtgdjhkcllpkiiaaGreatDoor
open Go.Shelf Go.RowKit Go.Lib
set_option linter.unusedVariables false
theorem own_any (s : ByteArray) (w : World) (hT : Lib.Utf8Tabs 0 1 w) (h2 : 1 < w.heap.size) : Calls Tryz.prog 6 #[.string s] w fun e w' => e = .returned (.bool true) ∧ Below w.heap.size w w' :=
  own_free s w hT h2 fun W hW hs => by
    by_cases h : 65536 < s.size
    · exact read_longU s W h
    · exact read_shortU s W (by omega) hW hs
end Go.Proofs.YtgdjhkcllpkiiaaGreatDoor
