/- What the life asks. -/
import Derived.Test.YthpcpaggbhgcoaaGreatDoorRg
namespace Go.Proofs.YthpcpaggbhgcoaaGreatDoor
open Go.Shelf Go.RowKit Go.Lib Go.Sort
set_option linter.unusedVariables false
set_option linter.unusedSimpArgs false
attribute [local go_sem ↓] Go.wp_at_zero Go.wp_at_succ
def lifeA : List UInt8 := [40, 102, 114, 111, 109, 32, 116, 32, 40, 119, 104, 101, 114, 101, 32, 40, 110, 111, 116, 32, 40, 61, 32, 98, 32, 50, 41, 41, 41, 32, 40, 103, 101, 116, 32, 40, 99, 111, 117, 110, 116, 41, 32, 40, 97, 110, 100, 32, 97, 32, 98, 32, 99, 41, 41, 41]
def lifeB : List UInt8 := [40, 102, 114, 111, 109, 32, 116, 32, 40, 119, 104, 101, 114, 101, 32, 40, 110, 111, 116, 32, 40, 61, 32, 98, 32, 50, 41, 41, 41, 32, 40, 103, 101, 116, 32, 40, 99, 111, 117, 110, 116, 41, 32, 40, 97, 110, 100, 32, 97, 32, 40, 97, 110, 100, 32, 98, 32, 99, 41, 41, 41, 41]
def lifeC : List UInt8 := [40, 102, 114, 111, 109, 32, 55, 41]
def lifeQ : Qry := ⟨[⟨1, []⟩, ⟨0, [⟨6, [97], 0⟩, ⟨6, [98], 0⟩, ⟨6, [99], 0⟩, ⟨20, [], 0⟩, ⟨20, [], 0⟩]⟩], [116], [], [], [], [⟨6, [98], 0⟩, ⟨4, [], 2⟩, ⟨14, [], 0⟩, ⟨8, [], 0⟩], []⟩
theorem life_a : parseP lifeA = (lifeQ, 0, 0) := by kernel_rfl
theorem life_b : printP lifeQ = (lifeB, 0) := by kernel_rfl
theorem life_c : parseP lifeC = (zeroQ, 13, 6) := by kernel_rfl
/-- What the package's variables hold, and that they are laid. -/
structure GA (w : World) : Prop where
  g2 : Glob2 w
  gw : GW w
  h10 : 10 ≤ w.heap.size
theorem GA.below {w w' : World} (h : GA w) (hb : Below w.heap.size w w') : GA w' := ⟨h.g2.below hb, h.gw.below hb, Nat.le_trans h.h10 hb.size⟩
set_option maxRecDepth 100000 in
set_option maxHeartbeats 8000000 in
theorem lives_any (w : World) (h : GA w) : Calls Tryz.prog 6 #[] w fun e w' => e = .returned (.bool true) ∧ Below w.heap.size w w' := by
  have HG := hid h
  have C1 : Hid (Calls Tryz.prog 7 #[.string ⟨lifeA.toArray⟩] w fun e w' => OutP w (lifeQ, 0, 0) e w') := by have := parse_any ⟨lifeA.toArray⟩ w (by decide) h.g2.1 h.gw h.h10; rw [show (⟨lifeA.toArray⟩ : ByteArray).data.toList = lifeA from rfl, life_a] at this; exact this
  clear h
  go_enter Tryz.func6, Tryz.ntmps6
  go_wp2_with fail
  refine C1.out.mono ?_
  rintro e w1 ⟨v, rfl, ⟨vi, vw, vg, rfl, hin⟩, hb1⟩
  obtain ⟨pi, ci, pw, cw, pg, cg, rfl, rfl, rfl, hls⟩ := hin.ls
  rw [show lifeQ.cl (.slice pi lifeQ.i.length ci) (.slice pw lifeQ.w.length cw) (.slice pg lifeQ.g.length cg) = #[.slice pi 2 ci, .string ⟨#[116]⟩, .string ⟨#[]⟩, .string ⟨#[]⟩, .string ⟨#[]⟩, .slice pw 4 cw, .slice pg 0 cg] from rfl]
  obtain ⟨WA, hWA, hth, V1, hV1, hgQ, hbV⟩ := box_any w1 27 #[.slice none 0 0, .string ⟨#[]⟩, .string ⟨#[]⟩, .string ⟨#[]⟩, .string ⟨#[]⟩, .slice none 0 0, .slice none 0 0] [.slice pi 2 ci, .string ⟨#[116]⟩, .string ⟨#[]⟩, .string ⟨#[]⟩, .string ⟨#[]⟩, .slice pw 4 cw, .slice pg 0 cg] rfl
  have HTH := hid hth
  have HV1 : Hid (WA.setCells w1.heap.size 0 (#[.slice pi 2 ci, .string ⟨#[116]⟩, .string ⟨#[]⟩, .string ⟨#[]⟩, .string ⟨#[]⟩, .slice pw 4 cw, .slice pg 0 cg] : Array Value).toList = V1) := hV1
  have HON : Hid ((#[.slice pi 2 ci, .string ⟨#[116]⟩, .string ⟨#[]⟩, .string ⟨#[]⟩, .string ⟨#[]⟩, .slice pw 4 cw, .slice pg 0 cg] : Array Value).all (·.oneCell') = true) := by show _ = _; simp [Value.oneCell']
  have hlQ : w1.heap.size < V1.heap.size := (Array.getElem?_eq_some_iff.1 hgQ).1
  have hbw1 : Below w.heap.size w V1 := hb1.trans (hbV.mono hb1.size)
  have hls1 := hls.below (fun b hb => hb.2) hbV
  have hK1 : ∀ b, From w.heap.size w1 b → b < V1.heap.size := fun b hb => Nat.lt_of_lt_of_le hb.2 hbV.size
  have hG1 := HG.out.below hbw1
  have C2 : Hid (Calls Tryz.prog 9 #[.agg #[.slice pi 2 ci, .string ⟨#[116]⟩, .string ⟨#[]⟩, .string ⟨#[]⟩, .string ⟨#[]⟩, .slice pw 4 cw, .slice pg 0 cg]] V1 fun e w' => e = .returned (.tuple #[.string ⟨lifeB.toArray⟩, .int .i64 0]) ∧ Below V1.heap.size V1 w') := by have := print_any _ pi pw pg ci cw cg lifeQ V1 hls1 hK1 hG1.gw hG1.g2; rw [life_b] at this; exact this
  have HR1 : Hid (V1.rangeAt w1.heap.size 0 [.slice pi 2 ci, .string ⟨#[116]⟩, .string ⟨#[]⟩, .string ⟨#[]⟩, .string ⟨#[]⟩, .slice pw 4 cw, .slice pg 0 cg]) := fun j u hu => by rw [Nat.zero_add]; exact cell_of_row hgQ (by simpa using hu)
  have HQ1 := hid (And.intro hgQ hlQ)
  have HL1 := hid (And.intro hls1 hK1)
  have HB1 := hid hbw1
  clear C1 hin hls hb1 hth hV1 hgQ hbV hlQ hbw1 hls1 hK1 hG1
  go_wp2_with (first | (refine wpList_store_mid rfl 27 _ _ rfl w1.heap.size 0 #[.slice pi 2 ci, .string ⟨#[116]⟩, .string ⟨#[]⟩, .string ⟨#[]⟩, .string ⟨#[]⟩, .slice pw 4 cw, .slice pg 0 cg] rfl rfl HTH.out sz_qry HON.out ?_; rw [show WA.setCells w1.heap.size 0 (#[.slice pi 2 ci, .string ⟨#[116]⟩, .string ⟨#[]⟩, .string ⟨#[]⟩, .string ⟨#[]⟩, .slice pw 4 cw, .slice pg 0 cg] : Array Value).toList = V1 from HV1.out]) | (refine wpList_load_mid rfl 27 _ rfl w1.heap.size 0 rfl _ _ HR1.out Tryz.underlying27 rfl sz_qry ?_))
  refine C2.out.mono ?_
  rintro e w2 ⟨rfl, hb2⟩
  have HB2 : Hid (Below w.heap.size w w2) := HB1.out.trans (hb2.mono HB1.out.size)
  have hG2 := HG.out.below HB2.out
  have C3 : Hid (Calls Tryz.prog 7 #[.string ⟨lifeC.toArray⟩] w2 fun e w' => OutP w2 (zeroQ, 13, 6) e w') := by have := parse_any ⟨lifeC.toArray⟩ w2 (by decide) hG2.g2.1 hG2.gw hG2.h10; rw [show (⟨lifeC.toArray⟩ : ByteArray).data.toList = lifeC from rfl, life_c] at this; exact this
  have HB12 := hid hb2
  obtain ⟨S, hS⟩ : ∃ S : ByteArray, (⟨lifeB.toArray⟩ : ByteArray) = S := ⟨_, rfl⟩
  have HS := hid hS
  rw [hS]
  clear C2 hb2 hG2 HR1 HTH HV1 HON hWA hS
  go_wp2_with fail
  refine C3.out.mono ?_
  rintro e w3 ⟨v, rfl, ⟨vi, vw, vg, rfl, hin⟩, hb3⟩
  obtain ⟨qi, di, rfl⟩ := hin.1.1.slice
  obtain ⟨qw, dw, rfl⟩ := hin.2.1.slice
  obtain ⟨qg, dg, rfl⟩ := hin.2.2.1.1.slice
  rw [show zeroQ.cl (.slice qi zeroQ.i.length di) (.slice qw zeroQ.w.length dw) (.slice qg zeroQ.g.length dg) = #[.slice qi 0 di, .string ⟨#[]⟩, .string ⟨#[]⟩, .string ⟨#[]⟩, .string ⟨#[]⟩, .slice qw 0 dw, .slice qg 0 dg] from rfl]
  obtain ⟨WA, hWA, hth, V3, hV3, _, hbV3⟩ := box_any w3 27 #[.slice none 0 0, .string ⟨#[]⟩, .string ⟨#[]⟩, .string ⟨#[]⟩, .string ⟨#[]⟩, .slice none 0 0, .slice none 0 0] [.slice qi 0 di, .string ⟨#[]⟩, .string ⟨#[]⟩, .string ⟨#[]⟩, .string ⟨#[]⟩, .slice qw 0 dw, .slice qg 0 dg] rfl
  have HTH := hid hth
  have HV3 : Hid (WA.setCells w3.heap.size 0 (#[.slice qi 0 di, .string ⟨#[]⟩, .string ⟨#[]⟩, .string ⟨#[]⟩, .string ⟨#[]⟩, .slice qw 0 dw, .slice qg 0 dg] : Array Value).toList = V3) := hV3
  have HON : Hid ((#[.slice qi 0 di, .string ⟨#[]⟩, .string ⟨#[]⟩, .string ⟨#[]⟩, .string ⟨#[]⟩, .slice qw 0 dw, .slice qg 0 dg] : Array Value).all (·.oneCell') = true) := by show _ = _; simp [Value.oneCell']
  have hb13 : Below V1.heap.size V1 V3 := HB12.out.trans ((hb3.trans (hbV3.mono hb3.size)).mono HB12.out.size)
  have HBF : Hid (Below w.heap.size w V3) := HB1.out.trans (hb13.mono HB1.out.size)
  have hgF := (hb13.block _ HQ1.out.2).trans HQ1.out.1
  have d0 := cell_of_row (k := 0) (v := .slice pi 2 ci) hgF rfl
  have d5 := cell_of_row (k := 5) (v := .slice pw 4 cw) hgF rfl
  have hlF := HL1.out.1.below HL1.out.2 hb13
  obtain ⟨b, o, hpi, _, hc⟩ := itm_at (n := 2) hlF.li (by decide)
  obtain ⟨p0, cp0, h0, _⟩ := hc 0 (by decide)
  obtain ⟨p1, cp1, h1, _⟩ := hc 1 (by decide)
  have f0 : V3.cell? ⟨b, o, none⟩ = some (.int .u8 1) := h0 0 _ rfl
  have f1 : V3.cell? ⟨b, o + 2 + 1, none⟩ = some (.slice p1 5 cp1) := h1 1 _ rfl
  have f1' : V3.cell? ⟨b, o + 3, none⟩ = some (.slice p1 5 cp1) := f1
  have ht : (S.toList == (⟨lifeB.toArray⟩ : ByteArray).toList) = true := by rw [HS.out]; simp
  have ht2 : (S.toList == lifeB) = true := by rw [Lib.toList_data, ← HS.out]; rfl
  subst hpi
  clear C3 hin hb3 hth hV3 hbV3 hb13 hgF hlF hc h0 h1 HB12 HQ1 HL1 HB1 HB2 HS HG
  unfold lifeB at ht ht2
  go_wp2_with (first | (refine wpList_store_mid rfl 27 _ _ rfl w3.heap.size 0 #[.slice qi 0 di, .string ⟨#[]⟩, .string ⟨#[]⟩, .string ⟨#[]⟩, .string ⟨#[]⟩, .slice qw 0 dw, .slice qg 0 dg] rfl rfl HTH.out sz_qry HON.out ?_; rw [show WA.setCells w3.heap.size 0 (#[.slice qi 0 di, .string ⟨#[]⟩, .string ⟨#[]⟩, .string ⟨#[]⟩, .string ⟨#[]⟩, .slice qw 0 dw, .slice qg 0 dg] : Array Value).toList = V3 from HV3.out]))
  go_ret
  exact ⟨rfl, HBF.out⟩
end Go.Proofs.YthpcpaggbhgcoaaGreatDoor
