/- How an expression is written. -/
import Derived.Test.YtnmmojhbcnlboaaGreatDoorRd
namespace Go.Proofs.YtnmmojhbcnlboaaGreatDoor
open Go.Shelf Go.RowKit Go.Lib Go.Sort
set_option linter.unusedVariables false
set_option linter.unusedSimpArgs false
attribute [local go_sem ↓] Go.wp_at_zero Go.wp_at_succ
def exprGo : List Stp → List (List UInt8) → List (List UInt8)
  | [], st => st
  | x :: l, st => exprGo l (st.take (st.length - (takesP x).1) ++ [writeStepP x (st.drop (st.length - (takesP x).1))])
def exprP (l : List Stp) : List UInt8 := (exprGo l []).headD []
theorem size25 (W : World) : (sizeOf (Tryz.prog.elem 24)).run Tryz.prog W = .ok 1 W := by kernel_rfl
theorem under25 : Tryz.prog.underlying 24 = some (.slice (Tryz.prog.elem 24)) := by kernel_rfl
theorem tail_slice (W : World) (a : Option Addr) (n c r : Nat) (h : r ≤ n) : (Instr.slice 24 (.slice a n c) (some (.int .i64 (r : Int))) none none).run Tryz.prog W = .ok (sliced a r n c 1) W := by
  rw [run_slice_l W 24 a n c under25 .i64 (r : Int) (by omega) (by omega), size25 W]
  rfl
theorem head_slice (W : World) (a : Option Addr) (n c r : Nat) (h : r ≤ c) (ha : a = none ∧ c = 0 ∨ ∃ g, a = some ⟨g, 0, none⟩) : (Instr.slice 24 (.slice a n c) none (some (.int .i64 (r : Int))) none).run Tryz.prog W = .ok (.slice a r c) W := by
  rw [run_slice_h W 24 a n c under25 .i64 (r : Int) (by omega) (by omega), size25 W]
  show Result.ok (sliced a 0 r c 1) W = _
  unfold sliced
  rcases ha with ⟨rfl, rfl⟩ | ⟨g, rfl⟩
  · rfl
  · simp [addr_add]
theorem ownForm {α : Type} {rel : Rel α} {size : Nat} {te : TypeId} {base : Nat} {W : World} {a : Option Addr} {n c : Nat} {xs : List α} (h : OwnR rel size te base W (.slice a n c) xs) : n = xs.length ∧ n ≤ c ∧ ((a = none ∧ c = 0) ∨ ∃ g, a = some ⟨g, 0, none⟩) := by
  obtain ⟨_, _, _, ⟨_, ⟨e, h0⟩ | ⟨g, cap, cur, e, _, _, hc, _⟩⟩, _⟩ := h
  · cases e; exact ⟨h0.symm, Nat.le_refl _, .inl ⟨rfl, rfl⟩⟩
  · cases e; exact ⟨rfl, hc, .inr ⟨g, rfl⟩⟩
/-- The first parts of a row of one's own. -/
theorem ownHead {α : Type} {rel : Rel α} {size : Nat} {te : TypeId} {base : Nat} {W : World} {a : Option Addr} {n c : Nat} {xs : List α} (h : OwnR rel size te base W (.slice a n c) xs) (r : Nat) (hr : r ≤ n) : OwnR rel size te base W (.slice a r c) (xs.take r) := by
  obtain ⟨hn, hc, ha⟩ := (ownForm h)
  obtain ⟨K, cells, hK, ⟨h1, h2⟩, hrel⟩ := h
  have hlt : (xs.take r).length = r := by rw [List.length_take]; omega
  have hrs : r * size ≤ n * size := Nat.mul_le_mul_right _ hr
  refine ⟨K, cells.take (r * size), fun b hb => ⟨(hK b hb).1, (hK b hb).2.1, by have h9 := (hK b hb).2.2; cases a with | none => simp [Value.ownBlock] | some z => simpa [Value.ownBlock] using h9⟩, ⟨by rw [hlt, List.length_take, h1, ← hn]; omega, ?_⟩, fun j hj => ?_⟩
  · rw [hlt]
    rcases h2 with ⟨e, h0⟩ | ⟨g, cap, cur, e, hb, hg, hc1, hc2, hc3, hc4⟩
    · cases e
      exact .inl ⟨by rw [show r = 0 by omega], by omega⟩
    · cases e
      refine .inr ⟨g, c, cur, rfl, hb, hg, by omega, hc2, hc3, ?_⟩
      rw [← hc4, List.take_take, ← hn, Nat.min_eq_left hrs]
  · rw [hlt] at hj
    have h3 := hrel j (by omega)
    have hjs : j * size + size ≤ r * size := by have := Nat.mul_le_mul_right size (show j + 1 ≤ r by omega); rwa [Nat.add_mul, Nat.one_mul] at this
    have e : ((cells.take (r * size)).drop (j * size)).take size = (cells.drop (j * size)).take size := by
      rw [List.drop_take, List.take_take, Nat.min_eq_left (by omega)]
    rw [e, List.getElem_take]
    exact h3
/-- The last parts of a row of one's own. -/
theorem ownTail {α : Type} {rel : Rel α} (hm : Mono rel) {bytes : Nat} {te : TypeId} {base : Nat} {W : World} {a : Option Addr} {n c : Nat} {xs : List α} (h : OwnR rel 1 te base W (.slice a n c) xs) (r : Nat) (hr : r ≤ n) (hb : xs.length * bytes ≤ 140737488355328) : ∃ q d, sliced a r n c 1 = .slice q (n - r) d ∧ ListIs rel 1 bytes (From base W) W (.slice q (xs.drop r).length d) (xs.drop r) := by
  obtain ⟨hn, hc, ha⟩ := (ownForm h)
  obtain ⟨p, c', e, hl⟩ := h.list hm hb
  rw [hn] at e
  cases e
  refine ⟨_, _, rfl, _, _, rfl, ⟨?_, ?_⟩, fun h0 => ?_⟩
  · rw [List.length_drop]; have := Nat.mul_le_mul_right bytes (Nat.sub_le xs.length r); omega
  · rw [List.length_drop]; omega
  · rw [List.length_drop] at h0
    obtain ⟨_, _, e, _, hp⟩ := hl
    cases e
    obtain ⟨b, o, rfl, hKb, hcell⟩ := hp (by omega)
    refine ⟨b, o + r, ?_, hKb, fun j hj => ?_⟩
    · rw [if_neg (by omega)]; simp [addr_add]
    · rw [List.length_drop] at hj
      obtain ⟨cs, k1, k2, k3⟩ := hcell (r + j) (by omega)
      exact ⟨cs, k1, fun i u hu => by have := k2 i u hu; rwa [show o + (r + j) * 1 + i = o + r + j * 1 + i by omega] at this, by rw [List.getElem_drop]; exact k3⟩
set_option maxRecDepth 100000 in
set_option maxHeartbeats 8000000 in
theorem writeExpr_any (K : Nat → Prop) (q : Option Addr) (c : Nat) (l : List Stp) (w : World) (h : ListIs rStp 3 32 K w (.slice q l.length c) l) (hK : ∀ b, K b → b < w.heap.size) (hG : GW w) (hG2 : Glob2 w) (hr : rightP l = true) :
    Calls Tryz.prog 16 #[.slice q l.length c] w fun e w' => (e = .returned (.string ⟨(exprP l).toArray⟩) ∧ (exprP l).length ≤ 20000000) ∧ Below w.heap.size w w' := by
  have HL := hid h
  have HK := hid hK
  have HG := hid hG
  have HG2 := hid hG2
  have hl64 : l.length ≤ 64 := by
    unfold rightP at hr
    split at hr
    · cases hr
    · omega
  have HR0 : Hid (rightL (l.drop 0) 0 = true) := by
    unfold rightP at hr
    rw [if_neg (by omega)] at hr
    exact hr
  obtain ⟨E, hE⟩ : ∃ E, exprGo l [] = E := ⟨_, rfl⟩
  have HE0 : Hid (exprGo (l.drop 0) [] = E) := hE
  have HEE : Hid (exprP l = E.headD []) := by show _ = _; rw [← hE]; rfl
  obtain ⟨i0, hi0, hz0, hz1, hz2⟩ := inE_str
  obtain ⟨N, hN⟩ : ∃ N, l.length = N := ⟨_, rfl⟩
  have HN := hid hN
  rw [hN] at hl64 ⊢
  clear h hK hG hG2 hr hE hN
  go_enter Tryz.func16, Tryz.ntmps16
  go_wp2_with fail
  go_loopg [3, 12] N (fun gf s3 s12 wx => ∃ (i v : Nat) (a : Option Addr) (cc : Nat) (st : List (List UInt8)), s3 = .slice a v cc ∧ s12 = .int .i64 i ∧ i ≤ N ∧ N ≤ i + gf ∧ v ≤ i ∧ Hid (Below w.heap.size w wx) ∧ Hid (OwnR rTxt 1 9 w.heap.size wx (.slice a v cc) st) ∧ Hid (st.flatten.length ≤ i * 200000) ∧ Hid (rightL (l.drop i) v = true) ∧ Hid (exprGo (l.drop i) st = E))
  case atStart => exact ⟨0, 0, none, 0, [], rfl, rfl, by omega, by omega, by omega, Below.refl _ _, OwnR.none (World.ownsRow_nil _ _ _ _), by show _ ≤ _; simp, HR0, HE0⟩
  case round =>
    clear HR0 HE0
    obtain ⟨i, v, a, cc, st, rfl, rfl, hi1, hgf, hvi, HB, HO, HF, HR, HE⟩ := hrel
    by_cases hi : i < N
    · obtain ⟨g', rfl⟩ : ∃ g', gk = g' + 1 := ⟨gk - 1, by omega⟩
      have hil : i < l.length := by rw [HN.out]; exact hi
      have hbw := HB.out
      obtain ⟨b, o, hq, _, hc⟩ := stp_at (HL.out.mono mStp (fun _ h => h) (kept_of HK.out hbw)) (by omega)
      subst hq
      obtain ⟨hrg, hok⟩ := hc i hil
      have hdr : l.drop i = l[i] :: l.drop (i + 1) := List.drop_eq_getElem_cons hil
      have hR := HR.out
      have hEx := HE.out
      rw [hdr] at hR hEx
      obtain ⟨y, hy⟩ : ∃ y, l[i] = y := ⟨_, rfl⟩
      rw [hy] at hrg hok hR hEx
      obtain ⟨s, hs⟩ : ∃ s : ByteArray, (⟨y.t.toArray⟩ : ByteArray) = s := ⟨_, rfl⟩
      have hv : y.v = .agg #[.int .u8 (y.k : Int), .string s, .int .i64 y.n] := by rw [← hs]; rfl
      rw [hs] at hrg
      have HRG := hid hrg
      obtain ⟨tk, ok, htk⟩ : ∃ tk ok, takesP y = (tk, ok) := ⟨_, _, rfl⟩
      have htk2 : tk ≤ 2 := by have := takesP_le y; rw [htk] at this; exact this
      have hR1 : (if ok = false ∨ v < tk then false else rightL (l.drop (i + 1)) (v + 1 - tk)) = true := by
        have : (if (takesP y).2 = false ∨ v < (takesP y).1 then false else rightL (l.drop (i + 1)) (v + 1 - (takesP y).1)) = true := hR
        rw [htk] at this
        exact this
      have hok2 : ok = true ∧ tk ≤ v ∧ rightL (l.drop (i + 1)) (v + 1 - tk) = true := by
        by_cases hh : ok = false ∨ v < tk
        · rw [if_pos hh] at hR1; cases hR1
        · rw [if_neg hh] at hR1
          exact ⟨by cases ok with
            | true => rfl
            | false => exact absurd (.inl rfl) hh, by omega, hR1⟩
      obtain ⟨rfl, htv, hR2⟩ := hok2
      obtain ⟨r, rfl⟩ : ∃ r, v = r + tk := ⟨v - tk, by omega⟩
      have HR2 : Hid (rightL (l.drop (i + 1)) (r + 1) = true) := by have := hR2; rw [show r + tk + 1 - tk = r + 1 by omega] at this; exact this
      obtain ⟨hfn, hfc, hfa⟩ := (ownForm HO.out)
      obtain ⟨T, hT⟩ : ∃ T, writeStepP y (st.drop r) = T := ⟨_, rfl⟩
      have HEx : Hid (exprGo (l.drop (i + 1)) (st.take r ++ [T]) = E) := by
        show _ = _
        have h2 : exprGo (l.drop (i + 1)) (st.take (st.length - (takesP y).1) ++ [writeStepP y (st.drop (st.length - (takesP y).1))]) = E := hEx
        rw [htk, ← hfn, show r + tk - tk = r by omega, hT] at h2
        exact h2
      have hdl : (st.drop r).length = tk := by rw [List.length_drop, ← hfn]; omega
      have hfl : st.flatten.length = (st.take r).flatten.length + (st.drop r).flatten.length := by
        have : st = st.take r ++ st.drop r := (List.take_append_drop r st).symm
        conv => lhs; rw [this]
        rw [List.flatten_append, List.length_append]
      have hTl : T.length ≤ 100100 + (st.drop r).flatten.length := by rw [← hT]; exact writeStepP_len y _ hok (by omega)
      have HF2 : Hid ((st.take r ++ [T]).flatten.length ≤ (i + 1) * 200000) := by
        show _ ≤ _
        rw [List.flatten_append, List.length_append, List.flatten_singleton]
        have := HF.out
        omega
      have hT9 : T.length ≤ 1000000000 := by have := HF.out; omega
      obtain ⟨WA, hWA, hth, W1, hW1, hg1, hb1⟩ := box_three wr 29 (.int .u8 0) (.string ⟨#[]⟩) (.int .i64 0) (.int .u8 (y.k : Int)) (.string s) (.int .i64 y.n)
      have HTH := hid hth
      have HW1 := hid hW1
      have HON : Hid ((#[.int .u8 (y.k : Int), .string s, .int .i64 y.n] : Array Value).all (·.oneCell') = true) := by show _ = _; simp [Value.oneCell']
      have hl1 : wr.heap.size < W1.heap.size := (Array.getElem?_eq_some_iff.1 hg1).1
      have hbW : Below w.heap.size w W1 := hbw.trans (hb1.mono hbw.size)
      have HR1 : Hid (∀ V, Below W1.heap.size W1 V → V.rangeAt wr.heap.size 0 [.int .u8 (y.k : Int), .string s, .int .i64 y.n]) := fun V hb j u hu => by rw [Nat.zero_add]; exact cell_of_row ((hb.block _ hl1).trans hg1) (by simpa using hu)
      have HR10 := hid (HR1.out W1 (Below.refl _ _))
      have C : Hid (Calls Tryz.prog 8 #[.agg #[.int .u8 (y.k : Int), .string s, .int .i64 y.n]] W1 fun e w' => e = .returned (.tuple #[.int .i64 (tk : Int), .bool true]) ∧ Below W1.heap.size W1 w') := by have := takes_any y W1 hok (HG.out.below hbW); rw [hv, htk] at this; exact this
      have HBW := hid hbW
      have HO1 := hid (HO.out.keep mTxt hb1)
      have HVY := hid (And.intro hv hok)
      have HTT := hid (And.intro hT (And.intro hT9 hdl))
      have HFA := hid (And.intro hfc hfa)
      have hsub : ((r + tk : Nat) : Int) - (tk : Int) = (r : Int) := by omega
      have z0 : (0 : Int) ≤ (i : Int) := by omega
      have z1 : (i : Int) < (N : Int) := by omega
      have HI := hid (And.intro hi (And.intro hl64 (And.intro hvi hgf)))
      clear hc hrg hok hdr hR hEx hy hs hv htk hR1 hR2 hfn hfc hfa hT hdl hfl hTl hT9 hth hW1 hg1 hl1 hb1 hbw hbW HR HE HF HO hil
      go_wp2_with (first | (refine wpList_load_mid rfl 29 _ rfl b (o + i * 3) rfl _ _ HRG.out Tryz.underlying29 rfl sz_step ?_) | (refine wpList_store_mid rfl 29 _ _ rfl wr.heap.size 0 #[.int .u8 (y.k : Int), .string s, .int .i64 y.n] rfl rfl HTH.out sz_step HON.out ?_; rw [show WA.setCells wr.heap.size 0 (#[.int .u8 (y.k : Int), .string s, .int .i64 y.n] : Array Value).toList = W1 from HW1.out]) | (refine wpList_load_mid rfl 29 _ rfl wr.heap.size 0 rfl _ _ HR10.out Tryz.underlying29 rfl sz_step ?_))
      refine C.out.mono ?_
      rintro e w2 ⟨rfl, hb2⟩
      obtain ⟨D, hD⟩ : ∃ D, w2.drew = D := ⟨_, rfl⟩
      have hbD : Below W1.heap.size W1 D := by rw [← hD]; exact hb2.drew
      have HB3 : Hid (Below w.heap.size w D) := HBW.out.trans (hbD.mono HBW.out.size)
      have HS := hid (HR1.out D hbD)
      have HOD := hid (HO1.out.keep mTxt hbD)
      have hst : (r + tk) = st.length := (ownForm HO1.out).1
      obtain ⟨qt, dt, hqt, hlt⟩ := ownTail mTxt HOD.out (bytes := 16) r (by omega) (by have := HI.out; omega)
      rw [show r + tk - r = tk by omega] at hqt
      have hsl : ∀ W, (Instr.slice 24 (.slice a (r + tk) cc) (some (.int .i64 (r : Int))) none none).run Tryz.prog W = .ok (.slice qt tk dt) W := fun W => by rw [tail_slice W a (r + tk) cc r (by omega), hqt]
      have hsh : ∀ W, (Instr.slice 24 (.slice a (r + tk) cc) none (some (.int .i64 (r : Int))) none).run Tryz.prog W = .ok (.slice a r cc) W := fun W => head_slice W a (r + tk) cc r (by have := HFA.out.1; omega) HFA.out.2
      have C2 : Hid (Calls Tryz.prog 34 #[.agg #[.int .u8 (y.k : Int), .string s, .int .i64 y.n], .slice qt tk dt] D fun e w' => e = .returned (.string ⟨T.toArray⟩) ∧ Below D.heap.size D w') := by
        have := writeStep_any _ y qt dt (st.drop r) D HVY.out.2 hlt (fun b hb => hb.2) (by rw [HTT.out.2.2]; exact htk2) (HG.out.below HB3.out) (HG2.out.below HB3.out)
        rw [HVY.out.1, HTT.out.2.2, HTT.out.1] at this
        exact this
      have HSL := hid hsl
      have HSH := hid hsh
      clear C hb2 hbD HR1 HR10 hst hqt hlt hsl hsh HTH HW1 HON hWA HRG HO1 HBW HB
      go_wp2_with fail
      refine wp_region_held_drew (S := fun V => V.rangeAt wr.heap.size 0 [.int .u8 (y.k : Int), .string s, .int .i64 y.n]) (by kernel_rfl) (by rw [hD]; exact HS.out) (fun hHeld => ?_)
      refine wpAnyH_take (i := 0) (v := .agg #[.int .u8 (y.k : Int), .string s, .int .i64 y.n]) rfl (by kernel_rfl) (by kernel_rfl) (by kernel_rfl) (fun _ _ _ h => h) (yieldsIf_load_mid (by rfl) 29 (.tmp 5) rfl wr.heap.size 0 rfl [.int .u8 (y.k : Int), .string s, .int .i64 y.n] _ (fun W hW => hW) Tryz.underlying29 rfl sz_step) hHeld ?_
      simp only [Act.put, List.getElem_toArray, List.getElem_cons_zero, List.getElem_cons_succ, List.setIfInBounds_toArray, List.set_cons_zero, List.set_cons_succ]
      refine wpAnyH_take (i := 1) (v := .slice a (r + tk) cc) rfl (by kernel_rfl) (by kernel_rfl) (by kernel_rfl) (fun _ _ _ h => h) (.inl ⟨by rfl, fun W hW => by go_simp⟩) hHeld ?_
      simp only [Act.put, List.getElem_toArray, List.getElem_cons_zero, List.getElem_cons_succ, List.setIfInBounds_toArray, List.set_cons_zero, List.set_cons_succ]
      refine wpAnyH_take (i := 2) (v := .int .i64 (r : Int)) rfl (by kernel_rfl) (by kernel_rfl) (by kernel_rfl) (fun _ _ _ h => h) (.inl ⟨by rfl, fun W hW => by go_simp⟩) hHeld ?_
      simp only [Act.put, List.getElem_toArray, List.getElem_cons_zero, List.getElem_cons_succ, List.setIfInBounds_toArray, List.set_cons_zero, List.set_cons_succ]
      refine wpAnyH_take (i := 3) (v := .slice qt tk dt) rfl (by kernel_rfl) (by kernel_rfl) (by kernel_rfl) (fun _ _ _ h => h) (.inl ⟨by rfl, fun W hW => by have h9 := HSL.out W; go_simp⟩) hHeld ?_
      simp only [Act.put, List.getElem_toArray, List.getElem_cons_zero, List.getElem_cons_succ, List.setIfInBounds_toArray, List.set_cons_zero, List.set_cons_succ]
      rw [hD] at hHeld ⊢
      clear hD
      refine wpAnyH_ready (rs := [4]) (by kernel_rfl) (by simp) ?_
      refine AllReadyH.cons rfl (fun K' hK => ?_) AllReadyH.nil
      rw [if_pos (by rfl)]
      go_simp
      go_at_call 34
      refine C2.out.mono ?_
      rintro e w3 ⟨rfl, hb3⟩
      have hS3 : w3.rangeAt wr.heap.size 0 [.int .u8 (y.k : Int), .string s, .int .i64 y.n] := fun j u hu => by
        have h1 := HS.out j u hu
        have h2 := World.block_lt_of_cell? D ⟨wr.heap.size, 0 + j, none⟩ h1
        exact (hb3.cell (p := ⟨wr.heap.size, 0 + j, none⟩) h2).trans h1
      have HB4 : Hid (Below w.heap.size w w3) := HB3.out.trans (hb3.mono HB3.out.size)
      have HO3 := hid (HOD.out.keep mTxt hb3)
      refine hK.out _ _ hS3 (fun hHeld => ?_)
      clear hK K' hS3 hb3 C2 HB3 HOD HS
      refine wpAnyH_ready (rs := [5]) (by kernel_rfl) (by simp) ?_
      refine AllReadyH.cons rfl (fun K' hK => ?_) AllReadyH.nil
      rw [if_pos (by rfl)]
      go_simp
      refine hK.out _ _ hHeld (fun hHeld => ?_)
      clear hK K'
      refine wpAnyH_done (by kernel_rfl) ?_ _
      clear hHeld
      obtain ⟨S, hS⟩ : ∃ S : ByteArray, (⟨T.toArray⟩ : ByteArray) = S := ⟨_, rfl⟩
      rw [hS]
      have hrl : (st.take r).length = r := by rw [List.length_take, ← (ownForm HO3.out).1]; omega
      have hmax : (st.take r).length + 1 ≤ maxLen := by rw [hrl]; unfold maxLen; have := HI.out; omega
      obtain ⟨v', X2, e2, ho2, hB2, hs2, hk2⟩ := (ownHead HO3.out r (by omega)).push mTxt (bytes := 16) (ts := 24) Tryz.underlying24 hi0 hz0 hz1 hz2 rfl (by omega) (by have := HB4.out.size; omega) (x := T) (cs := [.string S]) (K2 := fun _ => False) rfl (by intro c hc; simp at hc; subst hc; rfl) (fun b hb => hb.elim) ⟨by rw [hS], HTT.out.2.1⟩ (by rw [hrl]; have := HI.out; omega) hmax
      have HB5 : Hid (Below w.heap.size w X2) := hB2 _ _ HB4.out (Nat.le_refl _)
      have hlen : (st.take r ++ [T]).length = r + 1 := by rw [List.length_append, hrl]; rfl
      obtain ⟨a', cc', ev⟩ := ho2.slice
      rw [hlen] at ev
      subst ev
      have HO5 := hid ho2
      have hsh := HSH.out
      clear ho2 hB2 hs2 hk2 hrl hmax hlen HTT HVY HSL HSH HFA HO3 HB4 hS
      go_wp2_with (at_builtin; refine Lib.wpList_append_run _ rfl _ _ _ _ rfl (.slice a r cc) (.slice (some ⟨w3.heap.size, 0, none⟩) 1 1) rfl rfl _ _ e2 ?_)
      have hI := HI.out
      go_roundg g'
      case measure => omega
      case rel => exact ⟨i + 1, r + 1, a', cc', st.take r ++ [T], rfl, by go_num, by omega, by omega, by omega, HB5, HO5, HF2, HR2, HEx⟩
    · have z1 : ¬ (i : Int) < (N : Int) := by omega
      have hnil : l.drop i = [] := List.drop_of_length_le (by rw [HN.out]; omega)
      have hR := HR.out
      have hEx := HE.out
      rw [hnil] at hR hEx
      have hv1 : v = 1 := by have : decide (v = 1) = true := hR; exact of_decide_eq_true this
      have hEs : st = E := hEx
      obtain ⟨hfn, hfc, hfa⟩ := (ownForm HO.out)
      obtain ⟨T, rfl⟩ : ∃ T, st = [T] := by
        match st, hfn with
        | [T], _ => exact ⟨T, rfl⟩
        | [], h => simp at h; omega
        | _ :: _ :: _, h => simp at h; omega
      obtain ⟨p, cp, ep, hlp⟩ := HO.out.list mTxt (bytes := 16) (by simp)
      obtain ⟨b, o, hq, _, hc⟩ := txt_at hlp (by simp)
      subst hq
      have hcell := (hc 0 (by simp)).1
      have hcell0 : wr.cell? ⟨b, o, none⟩ = some (.string ⟨T.toArray⟩) := hcell
      have HEP : Hid (exprP l = T) := by show _ = _; rw [HEE.out, ← hEs]; rfl
      have HLE : Hid (T.length ≤ 20000000) := by have := HF.out; show _ ≤ _; simp at this; omega
      obtain ⟨S, hS⟩ : ∃ S : ByteArray, (⟨T.toArray⟩ : ByteArray) = S := ⟨_, rfl⟩
      rw [hS] at hcell0
      have HS := hid hS
      simp only [Value.slice.injEq] at ep
      obtain ⟨ea, -, ec⟩ := ep
      have ho0 : o = 0 := by
        rcases hfa with ⟨h, _⟩ | ⟨g, h⟩
        · rw [ea] at h; cases h
        · rw [ea] at h; cases h; rfl
      subst ho0
      subst ea
      subst ec
      subst hv1
      clear hnil hR hEx hEs hfn hfc hfa hlp hc hcell HO HF HR HE HEE hS hi hgf hvi hl64
      go_wp2_with fail
      go_ret
      exact ⟨⟨by rw [HEP.out, HS.out]; rfl, by rw [HEP.out]; exact HLE.out⟩, HB.out⟩
end Go.Proofs.YtnmmojhbcnlboaaGreatDoor
