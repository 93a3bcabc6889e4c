/- What tokens a text has: each is right, and there are not too many. -/
import Derived.Test.YtfifphfihdhlaaaGreatDoorQxQy
set_option maxRecDepth 100000
set_option maxHeartbeats 32000000
namespace Go.Proofs.YtfifphfihdhlaaaGreatDoor
open Go.Shelf Go.RowKit Go.Lib Go.Sort
set_option linter.unusedVariables false
set_option linter.unusedSimpArgs false
theorem ok_no : okT noTok := ⟨⟨by decide, by decide⟩, ⟨by decide, by decide⟩, ⟨by decide, by decide⟩, by simp [noTok]⟩
theorem i64_nat {n : Nat} (h : n ≤ 100000) : I64 (n : Int) := ⟨by omega, by omega⟩
theorem ok_wTok (l : List UInt8) (at0 : Nat) (h : at0 ≤ 100000) : okT { wTok l with a := (at0 : Int) } := by
 unfold wTok
 split
 · unfold numTok
   split
   · rename_i v hv
     have hb : -9223372036854775808 ≤ v ∧ v ≤ 9223372036854775807 := by
      unfold numOf at hv
      cases hp : Lib.parseIntB 64 l with
      | ok z =>
       rw [hp] at hv
       have hv2 : (if Lib.itoa z = l then some z else none) = some v := hv
       have h2 := Lib.parseIntB_bounds hp
       split at hv2
       · cases hv2
         simp at h2
         omega
       · cases hv2
      | _ => rw [hp] at hv; cases hv
     exact ⟨⟨by show (0 : Int) ≤ 4; omega, by show (4 : Int) < 256; omega⟩, hb, i64_nat h, by simp⟩
   · exact ⟨⟨by show (0 : Int) ≤ 0; omega, by show (0 : Int) < 256; omega⟩, ⟨by show _ ≤ (0 : Int); omega, by show (0 : Int) ≤ _; omega⟩, i64_nat h, by simp [noTok]⟩
 · split
   · exact ⟨⟨by show (0 : Int) ≤ 0; omega, by show (0 : Int) < 256; omega⟩, ⟨by show _ ≤ (0 : Int); omega, by show (0 : Int) ≤ _; omega⟩, i64_nat h, by simp [noTok]⟩
   · exact ⟨⟨by show (0 : Int) ≤ 3; omega, by show (3 : Int) < 256; omega⟩, ⟨by show _ ≤ (0 : Int); omega, by show (0 : Int) ≤ _; omega⟩, i64_nat h, by show l.length ≤ 100000; omega⟩
theorem ok_tokAns (ls : List Let) (at0 : Nat) (h : at0 ≤ 100000) : okT (tokAns ls at0).tok := by
 have i0 : I64 0 := ⟨by omega, by omega⟩
 unfold tokAns
 split
 · exact ok_no
 · split
   · exact ⟨⟨by show (0 : Int) ≤ 1; omega, by show (1 : Int) < 256; omega⟩, i0, i64_nat h, by simp⟩
   · split
     · exact ⟨⟨by show (0 : Int) ≤ 2; omega, by show (2 : Int) < 256; omega⟩, i0, i64_nat h, by simp⟩
     · split
       · unfold textAns
         split
         · exact ok_no
         · rename_i p hp
           split
           · exact ok_no
           · split
             · exact ok_no
             · rename_i h256
               exact ⟨⟨by show (0 : Int) ≤ 5; omega, by show (5 : Int) < 256; omega⟩, i0, i64_nat h, by show p.2.1.length ≤ 100000; omega⟩
       · unfold wordAns
         dsimp only
         split
         · exact ok_no
         · split
           · exact ok_wTok _ at0 h
           · exact ok_no
theorem ok_lexGo (ls : List Let) (hls : ls.length ≤ 100000) : ∀ (f p : Nat) (acc : List Tok), (∀ t ∈ acc, okT t) → (∀ t ∈ (lexGo ls f p acc).1, okT t) ∧ (lexGo ls f p acc).1.length ≤ acc.length + f
 | 0, p, acc, h => ⟨h, by show acc.length ≤ _; omega⟩
 | f + 1, p, acc, h => by
  by_cases hp : p < ls.length
  · rw [lexGo_step ls f p acc hp]
    split
    · have h2 := ok_lexGo ls hls f ((tokAns ls p).fin.toNat + skipL false (ls.drop (tokAns ls p).fin.toNat)) (acc ++ [(tokAns ls p).tok]) (fun t ht => by
       rcases List.mem_append.1 ht with h1 | h1
       · exact h t h1
       · rw [List.mem_singleton.1 h1]; exact ok_tokAns ls p (by omega))
      refine ⟨h2.1, ?_⟩
      have := h2.2
      simp only [List.length_append, List.length_singleton] at this
      omega
    · exact ⟨fun t ht => by simp at ht, by simp⟩
  · rw [lexGo_end ls (f + 1) p acc hp]
    exact ⟨h, by show acc.length ≤ _; omega⟩
theorem ok_lexP (l : List UInt8) : (∀ t ∈ (lexP l).1, okT t) ∧ (lexP l).1.length ≤ 2049 := by
 unfold lexP
 split
 · exact ⟨fun t ht => by simp at ht, by simp⟩
 · rename_i h
   have hl : (lets l).length ≤ 2048 := by have := letL_le l.length l; unfold lets; omega
   have := ok_lexGo (lets l) (by omega) ((lets l).length + 1) (skipL false (lets l)) [] (fun t ht => by simp at ht)
   exact ⟨this.1, by have := this.2; simp only [List.length_nil] at this; omega⟩
theorem flatK_part : ∀ (l : List Tok) (j : Nat) (h : j < l.length), ((flatK l).drop (j * 4)).take 4 = [.int .u8 l[j].k, .string ⟨l[j].t.toArray⟩, .int .i64 l[j].n, .int .i64 l[j].a]
 | [], j, h => by simp at h
 | x :: l, 0, h => rfl
 | x :: l, j + 1, h => by
  have := flatK_part l j (by simpa using h)
  rw [show (j + 1) * 4 = j * 4 + 1 + 1 + 1 + 1 by omega]
  exact this
theorem toks_list {w w' : World} {v : Value} {ts : List Tok} (h : LexOut w w' v ts) (hok : ∀ t ∈ ts, okT t) (hn : ts.length ≤ 2049) : ∃ p c, v = .slice p ts.length c ∧ ts.length ≤ c ∧ ListIs rTok 4 40 (From w.heap.size w') w' (.slice p ts.length c) ts := by
 have ho : OwnR rTok 4 160 w.heap.size w' v ts := ⟨fun _ => False, flatK ts, fun b h => h.elim, h, fun j hj => ⟨flatK_part ts j hj, hok _ (List.getElem_mem hj)⟩⟩
 obtain ⟨p, c, e, hl⟩ := ho.list mTok (bytes := 40) (by omega)
 refine ⟨p, c, e, ?_, hl⟩
 obtain ⟨_, _, e2, ⟨_, h2⟩, _⟩ := hl
 cases e2
 exact h2
open Tryz
open Go.Shelf Go.RowKit Go.Lib
attribute [local go_sem ↓] Go.wp_at_zero Go.wp_at_succ
theorem runes_any (s : ByteArray) (w : World) (hs : s.size ≤ 2048) :
 Calls prog 98 #[.string s] w fun e w' => e = .returned (.int .i64 ((lets s.data.toList).length : Int)) ∧ Bl w w' := by
 obtain ⟨L, hL⟩ := gen ((lets s.data.toList).length)
 have HL : Hid ((lets s.data.toList).length = L) := hL
 rw [hL]
 clear hL
 go_enter func98, ntmps98
 go_wp2
 go_loopg [3] s.size (fun gf v wx => ∃ (pos n : Nat), v = .int .i64 n ∧ wx.heap[w.heap.size]? = some (.stringIter s pos) ∧ Bl w wx ∧ Hid (n + (lets (s.data.toList.drop pos)).length = L) ∧ s.size ≤ pos + gf ∧ n ≤ pos)
 case atStart => exact ⟨0, 0, rfl, World.iter_heap w s 0, (Below.refl _ _).alloc (Nat.le_refl _) _, (by show _ = _; rw [List.drop_zero, Nat.zero_add]; exact HL.out), by omega, by simp⟩
 case round =>
  clear HL
  obtain ⟨pos, n, rfl, hit, hbw, HS, hb, hlen⟩ := hrel
  by_cases hp : pos < s.size
  · obtain ⟨g', rfl⟩ : ∃ g', gk = g' + 1 := ⟨gk - 1, by omega⟩
    have hnx : ∀ ty, (Instr.next (.pointer (some ⟨w.heap.size, 0, none⟩)) true ty).run prog wr = _ := fun ty => Lib.run_next_any_at wr w.heap.size s pos ty hit hp
    have hne : s.data.toList.drop pos ≠ [] := by
     intro e
     have := congrArg List.length e
     rw [List.length_drop, ← Lib.size_eq] at this
     simp at this
     omega
    have hwd := Lib.width_pos s pos
    have hS := HS.out
    rw [lets_cons _ hne, List.drop_drop, Lib.decodeL_drop, List.length_cons] at hS
    obtain ⟨R, hR⟩ := gen ((Utf8.decode s pos).1)
    obtain ⟨K, hK⟩ := gen ((Utf8.decode s pos).2)
    rw [hR, hK] at hnx
    rw [hK] at hS
    rw [hK] at hwd
    have hit2 := Lib.iterAt_heap wr w.heap.size s pos (pos + K) hit
    have hbw2 := Lib.below_iterAt hbw (k := w.heap.size) (Nat.le_refl _) s (pos + K)
    obtain ⟨W1, hW1⟩ := gen (wr.iterAt w.heap.size s (pos + K))
    rw [hW1] at hnx hit2 hbw2
    have HS2 : Hid (n + 1 + (lets (s.data.toList.drop (pos + K))).length = L) := by show _ = _; omega
    clear hW1 hit hbw hS hR hK hne HS
    go_wp2_with fail
    go_roundg g'
    case measure => omega
    case rel => exact ⟨pos + K, n + 1, by go_num, hit2, hbw2, HS2, by omega, by omega⟩
  · have hnx : ∀ ty, (Instr.next (.pointer (some ⟨w.heap.size, 0, none⟩)) true ty).run prog wr = _ := fun ty => Lib.run_next_end_at wr w.heap.size s pos ty hit (by omega)
    have HE : Hid (n = L) := by
     have := HS.out
     rw [List.drop_of_length_le (by rw [← Lib.size_eq]; omega), lets_nil] at this
     exact this
    clear HS
    go_wp2_with fail
    go_ret
    exact ⟨by rw [HE.out]; rfl, hbw⟩
end Go.Proofs.YtfifphfihdhlaaaGreatDoor
