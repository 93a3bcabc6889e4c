/- What the reference's text makes of glyphs. -/
import Derived.Test.YtimnnebmjapneaaDoorGd
namespace Go.Proofs.YtimnnebmjapneaaDoor
open Go.RowKit Go.Lib
set_option linter.unusedVariables false
theorem info21 : (Tryd.prog.info? 21).map (fun i => (i.zero, i.size, i.bytes)) = some (some (.int .i32 0), 1, 4) := by kernel_rfl
theorem cell_one_at (w : World) (a : Value) (t : TypeId) (g : Nat) (hg : g = w.heap.size) : ∀ j u, [a][j]? = some u → (w.alloc (.cells #[a] t)).cell? ((⟨g, 0, none⟩ : Addr).add j) = some u := by
  subst hg
  exact cell_one_new w a t

/-- The runes of letters. -/
def runesV (ls : List Let) : List Value := ls.map fun x => .int .i32 x.1
theorem runesV_len (ls : List Let) : (runesV ls).length = ls.length := by simp [runesV]
theorem runesBytes_enc : ∀ (ls : List Let) (s : ByteArray), (∀ x ∈ ls, okZ x.1) → ((ls.map fun x => x.1).foldl (fun r n => r ++ Utf8.encode n) s).data.toList = s.data.toList ++ enc ls
  | [], s, _ => by simp [enc]
  | x :: ls, s, h => by
    rw [List.map_cons, List.foldl_cons, runesBytes_enc ls _ (fun y hy => h y (by simp [hy]))]
    obtain ⟨r, e, hr⟩ := h x (by simp)
    have : enc (x :: ls) = Lib.encodeRune x.1 ++ enc ls := by simp [enc]
    rw [this, e, encR_eq r hr, ByteArray.data_append, Array.toList_append, List.append_assoc]
theorem text_conv {w : World} {base : Nat} {v : Value} {ls : List Let} (h : w.ownsRow base 21 1 v ls.length (runesV ls)) (ho : ∀ x ∈ ls, okZ x.1) :
    (convert 82 9 v).run Tryd.prog w = .ok (.string ⟨(enc ls).toArray⟩) w := by
  have hb : runesBytes (ls.map fun x => x.1) = ⟨(enc ls).toArray⟩ := by
    apply ByteArray.ext
    apply Array.toList_inj.1
    have := runesBytes_enc ls ByteArray.empty ho
    unfold runesBytes
    rw [this]
    simp
  obtain ⟨h1, ⟨rfl, h2⟩ | ⟨g, cap, cur, rfl, hb', hg, hc1, hc2, hc3, hc4⟩⟩ := h
  · obtain rfl : ls = [] := List.eq_nil_of_length_eq_zero h2
    rw [run_convert_runes_string w 82 9 21 _ _ _ Tryd.underlying82 Tryd.underlying21 Tryd.underlying9]
    rfl
  · rw [run_convert_runes_string w 82 9 21 _ _ _ Tryd.underlying82 Tryd.underlying21 Tryd.underlying9]
    have hw : w.ownsRow base 21 1 (.slice (some ⟨g, 0, none⟩) ls.length cap) ls.length (runesV ls) := ⟨h1, .inr ⟨g, cap, cur, rfl, hb', hg, hc1, hc2, hc3, hc4⟩⟩
    have hl := run_loadCells_list (P := Tryd.prog) w ⟨g, 0, none⟩ (runesV ls) (fun j v hv => by
      have hj : j < ls.length := by
        have := (List.getElem?_eq_some_iff.1 hv).1
        rwa [runesV_len] at this
      have := hw.cellAt j (by omega)
      rw [show ((⟨g, 0, none⟩ : Addr).add j) = ⟨g, j, none⟩ by simp [Addr.add]; omega, this]
      exact hv)
    rw [runesV_len] at hl
    rw [run_runesToString w ⟨g, 0, none⟩ ls.length cap (ls.map fun x => x.1) (by rw [hl]; simp [runesV]), hb]
set_option maxRecDepth 100000 in
set_option maxHeartbeats 4000000 in
theorem text_any (p : Option Addr) (c : Nat) (ls : List Let) (w : World) (hg : GA w p ls) (hl : ls.length ≤ 2048) (ho : ∀ x ∈ ls, okZ x.1) (T : List UInt8) (HT : Hid (enc ls = T)) :
    Calls Tryd.prog 36 #[.slice p ls.length c] w fun e w' => e = .returned (.string ⟨T.toArray⟩) ∧ Below w.heap.size w w' := by
  obtain ⟨i0, hi, hz0, hz1, hz2⟩ := info_parts info21
  have HG : Hid (GA w p ls) := hg
  have HO : Hid (∀ x ∈ ls, okZ x.1) := ho
  clear hg ho
  go_enter Tryd.func36, Tryd.ntmps36
  go_wp2
  go_loopg [3, 8] ls.length (fun gf v s8 wx => ∃ j : Nat, s8 = .int .i64 j ∧ j ≤ ls.length ∧ wx.ownsRow w.heap.size 21 1 v j (runesV (ls.take j)) ∧ Below w.heap.size w wx ∧ ls.length ≤ j + gf)
  case atStart => exact ⟨0, rfl, by omega, World.ownsRow_nil _ _ _ _, Below.refl _ _, by omega⟩
  case round =>
    obtain ⟨j, rfl, hjl, hown, hbw, hgf⟩ := hrel
    by_cases hlt : j < ls.length
    · obtain ⟨g', rfl⟩ : ∃ g', gk = g' + 1 := ⟨gk - 1, by omega⟩
      have hz0' : (0 : Int) ≤ (j : Int) := by omega
      have hz1' : (j : Int) < (ls.length : Int) := by omega
      obtain ⟨b, o, rfl, hb, hc⟩ := HG.out (by omega)
      obtain ⟨x0, x1⟩ := hc j hlt
      rw [← hbw.cell (p := ⟨b, _, none⟩) hb] at x0 x1
      have hbr : b < wr.heap.size := Nat.lt_of_lt_of_le hb hbw.size
      have hbs := hbw.size
      have HS : Hid (runesV (ls.take (j + 1)) = runesV (ls.take j) ++ [.int .i32 ls[j].1]) := by
        show _ = _
        rw [List.take_succ_eq_append_getElem hlt, runesV, runesV, List.map_append]
        rfl
      obtain ⟨⟨r, bd⟩, hr⟩ : ∃ x, ls[j] = x := ⟨_, rfl⟩
      rw [hr] at x0 x1 HS
      simp only at x0 x1 HS
      clear hr hc HT HO
      go_wp2_with (first
        | (at_builtin; refine wpList_append_own _ rfl _ _ 82 rfl w.heap.size 21 i0 (.int .i32 0) 1 4 Tryd.underlying82 hi hz0 hz1 hz2 rfl (by decide) _ _ _ rfl ((hown.alloc _).alloc _) ⟨_, 0, none⟩ 1 1 [.int .i32 r] rfl rfl (cell_one_at _ _ _ _ (by simp)) (fun x hx => by simp at hx; rcases hx with rfl; rfl) (by unfold maxLen; omega) (by omega) (by simp; omega) ?_; intro v' w3 hown' hgrow3 hnil3))
      have hbw2 : Below w.heap.size w ((wr.alloc (.cells #[.int .i32 r, .bool bd] 50)).alloc (.cells #[.int .i32 r] 21)) := (hbw.alloc hbw.size _).alloc (by simp; have := hbw.size; omega) _
      have hbw3 : Below w.heap.size w w3 := Below.grown hbw2 hgrow3 (by simp; have := hbw.size; omega) (fun j hj => (hown.lt _ hj).1)
      go_roundg g'
      case measure => omega
      case rel => exact ⟨j + 1, by go_num, by omega, by rw [HS.out]; exact hown', hbw3, by omega⟩
    · have hlt' : ¬ (j : Int) < (ls.length : Int) := by omega
      obtain rfl : j = ls.length := by omega
      have hcv := text_conv (ls := ls) (by rw [List.take_length] at hown; exact hown) HO.out
      rw [HT.out] at hcv
      clear HT
      go_wp2
      go_ret
      exact ⟨rfl, hbw⟩
end Go.Proofs.YtimnnebmjapneaaDoor
