/- What is written is read again; what is cut short is not. -/
import Derived.Test.YtjpnomkcinfonaaGreatDoorNe
import Derived.Test.YtjpnomkcinfonaaGreatDoorNcNdOb
namespace Go.Proofs.YtjpnomkcinfonaaGreatDoor
set_option linter.unusedVariables false
set_option linter.unusedSimpArgs false
def ba (l : List UInt8) : ByteArray := ⟨l.toArray⟩
theorem ba_size (l : List UInt8) : (ba l).size = l.length := by simp [ba, ByteArray.size]
theorem ba_ext {a b : ByteArray} (h : a.data = b.data) : a = b := by cases a; cases b; simp_all
theorem ba_take (l : List UInt8) (n : Nat) : (ba l).extract 0 n = ba (l.take n) := ba_ext (by simp [ba, ByteArray.data_extract])
theorem ba_drop (l : List UInt8) (n : Nat) : (ba l).extract n (ba l).size = ba (l.drop n) := ba_ext (by
  rw [ba_size]
  simp only [ba, ByteArray.data_extract, List.extract_toArray, List.extract_eq_take_drop]
  rw [List.take_of_length_le (by simp)])
theorem ba_list (s : ByteArray) : ba s.data.toList = s := ba_ext (by simp [ba])
theorem oct_rd (c : UInt8) (r : List UInt8) (f : Bool) (k : Nat) : octP (.rd (ba (c :: r)) f) k = (c.toNat, .rd (ba r) f) := by
  simp only [octP]
  rw [if_neg (by rw [ba_size]; simp), ba_take, ba_drop]
  simp [ba]
theorem oct_nil (f : Bool) (k : Nat) : octP (.rd (ba []) f) k = (0, .rd (ba []) true) := by
  simp only [octP]
  rw [if_pos (by rw [ba_size]; simp)]
/-- What a function writes it reads again; cut short it fails. -/
def Trip {α : Type} (f : St → α → α × St) (dd ok : α → Prop) : Prop := ∀ b x, ok x → failedP (f (.wr b false) x).2 = false → ∃ t, f (.wr b false) x = (x, .wr (b ++ t) false) ∧ (∀ r d, dd d → f (.rd (ba (t ++ r)) false) d = (x, .rd (ba r) false)) ∧ (∀ p q d, dd d → q ≠ [] → p ++ q = t → failedP (f (.rd (ba p) false) d).2 = true)
def any {α : Type} : α → Prop := fun _ => True
theorem trip_oct : Trip octP any (fun k => k < 256) := fun b k hk hf => by
  refine ⟨[UInt8.ofNat k], rfl, fun r d _ => ?_, fun p q d _ hq hp => ?_⟩
  · show octP (.rd (ba (UInt8.ofNat k :: r)) false) d = _
    rw [oct_rd]
    simp
    omega
  · have hp0 : p = [] := by
      cases p with
      | nil => rfl
      | cons c p => simp at hp; exact absurd hp.2.2 hq
    subst hp0
    rw [oct_nil]
    rfl
theorem pow7 (i : Nat) : 2 ^ (7 * (i + 1)) = 128 * 2 ^ (7 * i) := by rw [Nat.mul_add, Nat.pow_add]; omega
theorem rn_vn : ∀ f i acc n r g, i + f = 9 → acc + n * 2 ^ (7 * i) < 18446744073709551616 → (0 < i → 0 < n) → rnF (f + 1) i acc (.rd (ba (vnF f n ++ r)) g) = (acc + n * 2 ^ (7 * i), .rd (ba r) g)
  | 0, i, acc, n, r, g, hi, hn, h0 => by
    have hi9 : i = 9 := by omega
    subst hi9
    have hn2 : n ≤ 1 := by
      have : (2 : Nat) ^ (7 * 9) = 9223372036854775808 := by decide
      omega
    have hnn := h0 (by omega)
    have h1 : n = 1 := by omega
    subst h1
    show rnF (0 + 1) 9 acc (.rd (ba (UInt8.ofNat 1 :: r)) g) = _
    simp only [rnF, oct_rd]
    have e1 : (UInt8.ofNat 1).toNat = 1 := rfl
    rw [e1, if_neg (by omega), if_neg (by omega)]
    rw [Nat.mod_eq_of_lt (by omega)]
  | f + 1, i, acc, n, r, g, hi, hn, h0 => by
    simp only [vnF]
    by_cases h : n < 128
    · rw [if_pos h]
      show rnF (f + 1 + 1) i acc (.rd (ba (UInt8.ofNat n :: r)) g) = _
      rw [rnF]
      simp only [oct_rd]
      have e1 : (UInt8.ofNat n).toNat = n := by simp; omega
      rw [e1, if_neg (by omega), if_neg (by omega), Nat.mod_eq_of_lt h, Nat.mod_eq_of_lt hn]
    · rw [if_neg h]
      show rnF (f + 1 + 1) i acc (.rd (ba (UInt8.ofNat (n % 128 + 128) :: (vnF f (n / 128) ++ r))) g) = _
      rw [rnF]
      simp only [oct_rd]
      have e1 : (UInt8.ofNat (n % 128 + 128)).toNat = n % 128 + 128 := by simp; omega
      have e2 : (n % 128 + 128) % 128 = n % 128 := by omega
      have e3 : n * 2 ^ (7 * i) = n % 128 * 2 ^ (7 * i) + n / 128 * 2 ^ (7 * (i + 1)) := by
        rw [pow7, ← Nat.mul_assoc, ← Nat.add_mul]
        congr 1
        omega
      rw [e1, if_pos (by omega), e2, Nat.mod_eq_of_lt (by omega), rn_vn f (i + 1) _ (n / 128) r g (by omega) (by omega) (fun _ => by omega)]
      rw [e3, Nat.add_assoc]
theorem vnF_ne (f n : Nat) : vnF f n ≠ [] := by
  cases f with
  | zero => simp [vnF]
  | succ f => simp only [vnF]; split <;> simp
theorem rn_bad : ∀ k i acc r, failedP (rnF k i acc (.rd r true)).2 = true := fun k i acc r => (rn_nice k i acc (.rd r true)).2 rfl
theorem rn_cut : ∀ f i acc n p q g, q ≠ [] → p ++ q = vnF f n → failedP (rnF (f + 1) i acc (.rd (ba p) g)).2 = true
  | f, i, acc, n, [], q, g, hq, hp => by
    rw [rnF]
    simp only [oct_nil]
    rw [if_neg (by omega)]
    split <;> rfl
  | 0, i, acc, n, c :: p, q, g, hq, hp => by
    simp [vnF] at hp
    exact absurd hp.2.2 hq
  | f + 1, i, acc, n, c :: p, q, g, hq, hp => by
    simp only [vnF] at hp
    by_cases h : n < 128
    · rw [if_pos h] at hp
      simp at hp
      exact absurd hp.2.2 hq
    · rw [if_neg h] at hp
      simp only [List.cons_append, List.cons.injEq] at hp
      obtain ⟨rfl, hp⟩ := hp
      rw [rnF]
      simp only [oct_rd]
      have e1 : (UInt8.ofNat (n % 128 + 128)).toNat = n % 128 + 128 := by simp; omega
      rw [e1, if_pos (by omega)]
      exact rn_cut f (i + 1) _ (n / 128) p q g hq hp
theorem trip_num : Trip numP any (fun n => n < 18446744073709551616) := fun b n hn hf => by
  refine ⟨vn n, rfl, fun r d _ => ?_, fun p q d _ hq hp => ?_⟩
  · have := rn_vn 9 0 0 n r false rfl (by omega) (by omega)
    simp only [Nat.zero_add, Nat.mul_zero, Nat.pow_zero, Nat.mul_one] at this
    exact this
  · exact rn_cut 9 0 0 n p q false hq hp
/-- Through another type. -/
def viaP {α β : Type} (to_ : α → β) (of : β → α) (h : St → β → β × St) : St → α → α × St := fun st x => (of (h st (to_ x)).1, (h st (to_ x)).2)
theorem trip_via {α β : Type} {to_ : α → β} {of : β → α} {h : St → β → β × St} {dd ok : β → Prop} {dd2 ok2 : α → Prop} (ht : Trip h dd ok) (hi : ∀ x, ok2 x → of (to_ x) = x) (hd : ∀ x, dd2 x → dd (to_ x)) (ho : ∀ x, ok2 x → ok (to_ x)) : Trip (viaP to_ of h) dd2 ok2 := fun b x hx hf => by
  obtain ⟨t, h1, h2, h3⟩ := ht b (to_ x) (ho x hx) hf
  refine ⟨t, ?_, fun r d hdd => ?_, fun p q d hdd hq hp => h3 p q (to_ d) (hd d hdd) hq hp⟩
  · show (of (h _ _).1, (h _ _).2) = _
    rw [h1, hi x hx]
  · show (of (h _ _).1, (h _ _).2) = _
    rw [h2 r (to_ d) (hd d hdd), hi x hx]
theorem trip_long : Trip longP any I64 := trip_via (to_ := zig) (of := zag) trip_num (fun x _ => zag_zig x) (fun _ _ => trivial) (fun x hx => zig_lt hx)
theorem split_cut {α : Type} {p q t s : List α} (h : p ++ q = t ++ s) (hq : q ≠ []) : (∃ q1, q1 ≠ [] ∧ p ++ q1 = t) ∨ ∃ p2, p = t ++ p2 ∧ p2 ++ q = s := by
  rcases List.append_eq_append_iff.1 h with ⟨a, h1, h2⟩ | ⟨a, h1, h2⟩
  · by_cases ha : a = []
    · subst ha
      right
      exact ⟨[], by simpa using h1.symm, by simpa using h2⟩
    · left
      exact ⟨a, ha, h1.symm⟩
  · right
    exact ⟨a, h1, h2.symm⟩
/-- One behind the other. -/
def seqP {α β : Type} (f : St → α → α × St) (g : St → β → β × St) : St → α × β → (α × β) × St := fun st x => (((f st x.1).1, (g (f st x.1).2 x.2).1), (g (f st x.1).2 x.2).2)
theorem nice_un {α : Type} {g : St → α → α × St} (h : Nice g) {st : St} {x : α} (hf : failedP (g st x).2 = false) : failedP st = false := by
  cases hs : failedP st with
  | false => rfl
  | true => rw [(h st x).2 hs] at hf; cases hf
theorem trip_seq {α β : Type} {f : St → α → α × St} {g : St → β → β × St} {d1 o1 : α → Prop} {d2 o2 : β → Prop} (hf : Trip f d1 o1) (hg : Trip g d2 o2) (hn : Nice g) : Trip (seqP f g) (fun x => d1 x.1 ∧ d2 x.2) (fun x => o1 x.1 ∧ o2 x.2) := fun b x hx he => by
  obtain ⟨t, a1, a2, a3⟩ := hf b x.1 hx.1 (nice_un hn he)
  have he2 : failedP (g (.wr (b ++ t) false) x.2).2 = false := by
    have : failedP (g (f (.wr b false) x.1).2 x.2).2 = false := he
    rwa [a1] at this
  obtain ⟨s, b1, b2, b3⟩ := hg (b ++ t) x.2 hx.2 he2
  refine ⟨t ++ s, ?_, fun r d hd => ?_, fun p q d hd hq hp => ?_⟩
  · show (((f _ _).1, (g (f _ _).2 _).1), (g (f _ _).2 _).2) = _
    rw [a1, b1, List.append_assoc]
  · show (((f _ _).1, (g (f _ _).2 _).1), (g (f _ _).2 _).2) = _
    rw [List.append_assoc, a2 (s ++ r) d.1 hd.1, b2 r d.2 hd.2]
  · show failedP (g (f _ _).2 _).2 = true
    rcases split_cut hp hq with ⟨q1, h1, h2⟩ | ⟨p2, rfl, h2⟩
    · exact (hn _ _).2 (a3 p q1 d.1 hd.1 h1 h2)
    · rw [a2 p2 d.1 hd.1]
      exact b3 p2 q d.2 hd.2 hq h2
theorem trip_less {α : Type} {f : St → α → α × St} {dd ok dd2 ok2 : α → Prop} (h : Trip f dd ok) (hd : ∀ x, dd2 x → dd x) (ho : ∀ x, ok2 x → ok x) : Trip f dd2 ok2 := fun b x hx hf => by
  obtain ⟨t, h1, h2, h3⟩ := h b x (ho x hx) hf
  exact ⟨t, h1, fun r d hdd => h2 r d (hd d hdd), fun p q d hdd hq hp => h3 p q d (hd d hdd) hq hp⟩
end Go.Proofs.YtjpnomkcinfonaaGreatDoor
/- .. through texts, flags, lists and parts. -/
namespace Go.Proofs.YtjpnomkcinfonaaGreatDoor
set_option linter.unusedVariables false
set_option linter.unusedSimpArgs false
theorem trip_flag : Trip flagP any any := fun b x _ hf => by
  have hk : (if x then 1 else 0 : Nat) < 256 := by split <;> omega
  obtain ⟨t, h1, h2, h3⟩ := trip_oct b (if x then 1 else 0) hk (by
    cases hs : failedP (octP (.wr b false) (if x then 1 else 0)).2 with
    | false => rfl
    | true =>
      have : failedP (if 1 < (octP (.wr b false) (if x then 1 else 0)).1 then failP (octP (.wr b false) (if x then 1 else 0)).2 else (octP (.wr b false) (if x then 1 else 0)).2) = false := hf
      rw [if_neg (by show ¬ 1 < (if x then 1 else 0 : Nat); split <;> omega), hs] at this
      cases this)
  refine ⟨t, ?_, fun r d _ => ?_, fun p q d _ hq hp => ?_⟩
  · simp only [flagP, h1]
    cases x <;> rfl
  · simp only [flagP, h2 r (if d then 1 else 0) trivial]
    cases x <;> rfl
  · have := h3 p q (if d then 1 else 0) trivial hq hp
    exact (if_nice (c := 1 < (octP (.rd (ba p) false) (if d then 1 else 0)).1) ⟨rfl, fun h => h⟩).2 this
theorem take_bad (r : ByteArray) (n : Nat) : failedP (takeP r true n).2 = true := by unfold takeP; split <;> rfl
theorem trip_txt : Trip txtP any any := fun b s _ hf => by
  have hs : ¬ 2048 < s.size := fun h => by simp only [txtP] at hf; rw [if_pos h] at hf; simp [failedP] at hf
  refine ⟨vn s.size ++ s.data.toList, ?_, fun r d _ => ?_, fun p q d _ hq hp => ?_⟩
  · simp only [txtP]; rw [if_neg hs, List.append_assoc]
  · have h1 := rn_vn 9 0 0 s.size (s.data.toList ++ r) false rfl (by omega) (by omega)
    simp only [Nat.zero_add, Nat.mul_zero, Nat.pow_zero, Nat.mul_one] at h1
    have h2 : rnF 10 0 0 (.rd (ba (vn s.size ++ s.data.toList ++ r)) false) = (s.size, .rd (ba (s.data.toList ++ r)) false) := by rw [List.append_assoc]; exact h1
    simp only [txtP, h2]
    rw [if_neg hs]
    unfold takeP
    have hl : s.data.toList.length = s.size := by simp
    rw [if_neg (by rw [ba_size, List.length_append]; omega), ba_take, ba_drop]
    rw [List.take_append_of_le_length (by omega), List.take_of_length_le (by omega), List.drop_append_of_le_length (by omega), List.drop_of_length_le (by omega), ba_list]
    rfl
  · rcases split_cut hp hq with ⟨q1, g1, g2⟩ | ⟨p2, rfl, g2⟩
    · have h1 := rn_cut 9 0 0 s.size p q1 false g1 g2
      obtain ⟨r', f', h⟩ := rnF_rd 10 0 0 (ba p) false
      obtain ⟨⟨n, st'⟩, hr⟩ : ∃ q, rnF 10 0 0 (.rd (ba p) false) = q := ⟨_, rfl⟩
      rw [hr] at h h1
      simp only at h h1
      subst h
      have hf' : f' = true := h1
      subst hf'
      simp only [txtP, hr]
      split
      · rfl
      · exact take_bad _ _
    · have h1 := rn_vn 9 0 0 s.size p2 false rfl (by omega) (by omega)
      simp only [Nat.zero_add, Nat.mul_zero, Nat.pow_zero, Nat.mul_one] at h1
      have h2 : rnF 10 0 0 (.rd (ba (vn s.size ++ p2)) false) = (s.size, .rd (ba p2) false) := h1
      simp only [txtP, h2]
      rw [if_neg hs]
      have hl : s.data.toList.length = s.size := by simp
      have hlt : p2.length < s.size := by
        have := congrArg List.length g2
        have hq0 : 0 < q.length := List.length_pos_iff.2 hq
        simp only [List.length_append] at this
        omega
      unfold takeP
      rw [if_pos (by rw [ba_size]; exact hlt)]
      rfl
theorem trip_each {α : Type} {part : St → α → α × St} {d : α} {ok : α → Prop} (hp : Trip part (fun x => x = d) ok) (hn : Nice part) : ∀ l b, (∀ x ∈ l, ok x) → failedP (eachP part (.wr b false) l) = false → ∃ t, eachP part (.wr b false) l = .wr (b ++ t) false ∧ (∀ r acc, takenP part d l.length (.rd (ba (t ++ r)) false) acc = (acc ++ l, .rd (ba r) false)) ∧ (∀ p q acc, q ≠ [] → p ++ q = t → failedP (takenP part d l.length (.rd (ba p) false) acc).2 = true)
  | [], b, ho, hf => ⟨[], by simp [eachP], fun r acc => by simp [takenP], fun p q acc hq hp => by simp at hp; exact absurd hp.2 hq⟩
  | x :: xs, b, ho, hf => by
    simp only [eachP] at hf ⊢
    have h0 : failedP (.wr b false) = false := by
      cases hs : failedP (.wr b false) with
      | false => rfl
      | true => rw [if_pos hs, hs] at hf; cases hf
    rw [if_neg (by rw [h0]; simp)] at hf ⊢
    have h1 : failedP (part (.wr b false) x).2 = false := by
      cases hs : failedP (part (.wr b false) x).2 with
      | false => rfl
      | true => rw [(each_nice hn xs _).2 hs] at hf; cases hf
    obtain ⟨t, a1, a2, a3⟩ := hp b x (ho x (by simp)) h1
    rw [a1] at hf ⊢
    obtain ⟨s, b1, b2, b3⟩ := trip_each hp hn xs (b ++ t) (fun y hy => ho y (by simp [hy])) hf
    have hfr : ∀ r : List UInt8, failedP (.rd (ba r) false) = false := fun r => rfl
    refine ⟨t ++ s, by rw [b1, List.append_assoc], fun r acc => ?_, fun p q acc hq hpq => ?_⟩
    · show takenP part d (xs.length + 1) _ _ = _
      simp only [takenP]
      rw [if_neg (by rw [hfr]; simp), List.append_assoc, a2 (s ++ r) d rfl]
      simp only
      rw [b2 r (acc ++ [x])]
      simp
    · show failedP (takenP part d (xs.length + 1) _ _).2 = true
      simp only [takenP]
      rw [if_neg (by rw [hfr]; simp)]
      rcases split_cut hpq hq with ⟨q1, g1, g2⟩ | ⟨p2, rfl, g2⟩
      · exact (taken_nice hn d xs.length _ _).2 (a3 p q1 d rfl g1 g2)
      · rw [a2 p2 d rfl]
        exact b3 p2 q _ hq g2
theorem list_wr_bad {α : Type} (most : Nat) (part : St → α → α × St) (d : α) (b : List UInt8) (l : List α) (h : most < l.length) : listP most part d (.wr b false) l = (l, eachP part (.wr (b ++ vn l.length) true) l) := by
  have e : (if most < (numP (.wr b false) l.length).1 then failP (numP (.wr b false) l.length).2 else (numP (.wr b false) l.length).2) = .wr (b ++ vn l.length) true := if_pos h
  simp only [listP]
  rw [e]
  rfl
theorem list_wr {α : Type} (most : Nat) (part : St → α → α × St) (d : α) (b : List UInt8) (l : List α) (h : ¬ most < l.length) : listP most part d (.wr b false) l = (l, eachP part (.wr (b ++ vn l.length) false) l) := by
  have e : (if most < (numP (.wr b false) l.length).1 then failP (numP (.wr b false) l.length).2 else (numP (.wr b false) l.length).2) = .wr (b ++ vn l.length) false := if_neg h
  simp only [listP]
  rw [e]
  rfl
theorem trip_list {α : Type} {part : St → α → α × St} (most : Nat) {d : α} {ok : α → Prop} (hp : Trip part (fun x => x = d) ok) (hn : Nice part) : Trip (listP most part d) any (fun l => l.length < 18446744073709551616 ∧ ∀ x ∈ l, ok x) := fun b l hl hf => by
  have hm : ¬ most < l.length := fun h => by
    rw [list_wr_bad most part d b l h] at hf
    have : failedP (eachP part (.wr (b ++ vn l.length) true) l) = true := (each_nice hn l _).2 rfl
    rw [this] at hf
    cases hf
  have hf2 : failedP (eachP part (.wr (b ++ vn l.length) false) l) = false := by
    rw [list_wr most part d b l hm] at hf
    exact hf
  obtain ⟨s, b1, b2, b3⟩ := trip_each hp hn l (b ++ vn l.length) hl.2 hf2
  have hv : failedP (numP (.wr b false) l.length).2 = false := by
    cases hs : failedP (.wr (b ++ vn l.length) false) with
    | false => exact hs
    | true => rw [(each_nice hn l _).2 hs] at hf2; cases hf2
  obtain ⟨t, a1, a2, a3⟩ := trip_num b l.length hl.1 hv
  have ht : t = vn l.length := by
    have e : (St.wr (b ++ vn l.length) false) = .wr (b ++ t) false := congrArg Prod.snd a1
    simpa using e.symm
  subst ht
  refine ⟨vn l.length ++ s, ?_, fun r d' _ => ?_, fun p q d' _ hq hpq => ?_⟩
  · rw [list_wr most part d b l hm, b1, List.append_assoc]
  · simp only [listP]
    rw [List.append_assoc, a2 (s ++ r) d'.length trivial]
    simp only
    rw [if_neg hm]
    show takenP part d l.length _ [] = _
    rw [b2 r []]
    simp
  · simp only [listP]
    rcases split_cut hpq hq with ⟨q1, g1, g2⟩ | ⟨p2, rfl, g2⟩
    · have hb := a3 p q1 d'.length trivial g1 g2
      have hr : St.reads (numP (.rd (ba p) false) d'.length).2 = true := by rw [numP_reads]; rfl
      generalize numP (.rd (ba p) false) d'.length = w at hb hr ⊢
      have hb2 : failedP (if most < w.1 then failP w.2 else w.2) = true := (if_nice (c := most < w.1) ⟨rfl, fun h => h⟩).2 hb
      have hr2 : St.reads (if most < w.1 then failP w.2 else w.2) = true := by split <;> simp [failP_reads, hr]
      rw [if_pos hr2]
      exact (taken_nice hn d _ _ _).2 hb2
    · rw [a2 p2 d'.length trivial]
      simp only
      rw [if_neg hm]
      exact b3 p2 q [] hq g2
end Go.Proofs.YtjpnomkcinfonaaGreatDoor
/- .. and through the parts of a message. -/
namespace Go.Proofs.YtjpnomkcinfonaaGreatDoor
set_option linter.unusedVariables false
set_option linter.unusedSimpArgs false
theorem nice_seqP {α β : Type} {f : St → α → α × St} {g : St → β → β × St} (hf : Nice f) (hg : Nice g) : Nice (seqP f g) := fun st x => nice_seq (hf st x.1) (hg (f st x.1).2 x.2)
theorem chk0 {v : Val} (h : chkV v = 0) : v.k < 4 ∧ v = v.bare := by
  unfold chkV at h
  split at h
  · cases h
  · rename_i hn
    have h1 : ¬ 4 ≤ v.k := fun e => hn (.inl e)
    have h2 : sameV v v.bare = true := by
      cases hs : sameV v v.bare with
      | true => rfl
      | false => exact absurd (.inr hs) hn
    exact ⟨by omega, (sameV_iff _ _).1 h2⟩
/-- What follows a value's kind. -/
def valQ (k : Nat) (st : St) (v : Val) : Val × St :=
  if k = 1 then (⟨(k : Int), (flagP st v.b).1, v.n, v.s⟩, (flagP st v.b).2)
  else if k = 2 then (⟨(k : Int), v.b, (longP st v.n).1, v.s⟩, (longP st v.n).2)
  else if k = 3 then (⟨(k : Int), v.b, v.n, (txtP st v.s).1⟩, (txtP st v.s).2)
  else (⟨(k : Int), v.b, v.n, v.s⟩, st)
def fin (q : Val × St) : Val × St := (q.1, if chkV q.1 = 0 then q.2 else failP q.2)
theorem valP_eq (st : St) (v : Val) : valP st v = fin (valQ (octP st v.k.toNat).1 (octP st v.k.toNat).2 v) := rfl
theorem fin_ok {q : Val × St} (h : failedP (fin q).2 = false) : chkV q.1 = 0 ∧ failedP q.2 = false := by
  unfold fin at h
  simp only at h
  split at h
  · rename_i hc
    exact ⟨hc, h⟩
  · rw [(fail_nice _).2] at h
    cases h
theorem fin_bad {q : Val × St} (h : failedP q.2 = true) : failedP (fin q).2 = true := by
  unfold fin
  simp only
  split
  · exact h
  · exact (fail_nice _).2
theorem fin_eq {q : Val × St} (h : chkV q.1 = 0) : fin q = q := by
  unfold fin
  rw [if_pos h]
def okVal (v : Val) : Prop := (0 ≤ v.k ∧ v.k < 256) ∧ I64 v.n
theorem bare_is {v : Val} (h : v = v.bare) : v = ⟨v.k, if v.k = 1 then v.b else false, if v.k = 2 then v.n else 0, if v.k = 3 then v.s else ⟨#[]⟩⟩ := h
theorem trip_valQ (v : Val) (ho : okVal v) (hc : chkV v = 0) (b : List UInt8) (hf : failedP (valQ v.k.toNat (.wr b false) v).2 = false) : ∃ t, valQ v.k.toNat (.wr b false) v = (v, .wr (b ++ t) false) ∧ (∀ r, valQ v.k.toNat (.rd (ba (t ++ r)) false) val0 = (v, .rd (ba r) false)) ∧ (∀ p q, q ≠ [] → p ++ q = t → failedP (valQ v.k.toNat (.rd (ba p) false) val0).2 = true) := by
  obtain ⟨hk4, hb⟩ := chk0 hc
  obtain ⟨k, vb, n, s⟩ := v
  obtain ⟨⟨hk0, _⟩, hn⟩ := ho
  simp only at hk4 hk0 hn
  have hb2 : (⟨k, vb, n, s⟩ : Val) = ⟨k, if k = 1 then vb else false, if k = 2 then n else 0, if k = 3 then s else ⟨#[]⟩⟩ := hb
  rcases (show k = 0 ∨ k = 1 ∨ k = 2 ∨ k = 3 by omega) with rfl | rfl | rfl | rfl
  · simp at hb2
    obtain ⟨rfl, rfl, rfl⟩ := hb2
    exact ⟨[], by rw [List.append_nil]; rfl, fun r => rfl, fun p q hq hp => by simp at hp; exact absurd hp.2 hq⟩
  · simp at hb2
    obtain ⟨rfl, rfl⟩ := hb2
    obtain ⟨t, h1, h2, h3⟩ := trip_flag b vb trivial hf
    refine ⟨t, ?_, fun r => ?_, fun p q hq hp => h3 p q _ trivial hq hp⟩
    · show ((⟨((1 : Nat) : Int), (flagP _ _).1, _, _⟩ : Val), (flagP _ _).2) = _
      rw [h1]; rfl
    · show ((⟨((1 : Nat) : Int), (flagP _ _).1, _, _⟩ : Val), (flagP _ _).2) = _
      rw [h2 r _ trivial]; rfl
  · simp at hb2
    obtain ⟨rfl, rfl⟩ := hb2
    obtain ⟨t, h1, h2, h3⟩ := trip_long b n hn hf
    refine ⟨t, ?_, fun r => ?_, fun p q hq hp => h3 p q _ trivial hq hp⟩
    · show ((⟨((2 : Nat) : Int), _, (longP _ _).1, _⟩ : Val), (longP _ _).2) = _
      rw [h1]; rfl
    · show ((⟨((2 : Nat) : Int), _, (longP _ _).1, _⟩ : Val), (longP _ _).2) = _
      rw [h2 r _ trivial]; rfl
  · simp at hb2
    obtain ⟨rfl, rfl⟩ := hb2
    obtain ⟨t, h1, h2, h3⟩ := trip_txt b s trivial hf
    refine ⟨t, ?_, fun r => ?_, fun p q hq hp => h3 p q _ trivial hq hp⟩
    · show ((⟨((3 : Nat) : Int), _, _, (txtP _ _).1⟩ : Val), (txtP _ _).2) = _
      rw [h1]; rfl
    · show ((⟨((3 : Nat) : Int), _, _, (txtP _ _).1⟩ : Val), (txtP _ _).2) = _
      rw [h2 r _ trivial]; rfl
/-- What is written of a value's own is as it was. -/
theorem valQ_wr (v : Val) (h0 : 0 ≤ v.k) (b : List UInt8) : (valQ v.k.toNat (.wr b false) v).1 = v ∨ failedP (valQ v.k.toNat (.wr b false) v).2 = true := by
  have hk : ((v.k.toNat : Nat) : Int) = v.k := by omega
  unfold valQ
  rw [hk]
  split
  · exact .inl (by
      have : (flagP (.wr b false) v.b).1 = v.b := by cases hb : v.b <;> rfl
      rw [this])
  · split
    · exact .inl (by
        have : (longP (.wr b false) v.n).1 = v.n := zag_zig v.n
        rw [this])
    · split
      · by_cases hs : 2048 < v.s.size
        · right
          show failedP (txtP (.wr b false) v.s).2 = true
          simp only [txtP]; rw [if_pos hs]; rfl
        · left
          have : (txtP (.wr b false) v.s).1 = v.s := by simp only [txtP]; rw [if_neg hs]
          rw [this]
      · exact .inl rfl
theorem trip_val : Trip valP (fun v => v = val0) okVal := fun b v ho hf => by
  rw [valP_eq] at hf
  obtain ⟨hc, hf2⟩ := fin_ok hf
  have hkl : v.k.toNat < 256 := by have := ho.1; omega
  have ho1 : octP (.wr b false) v.k.toNat = (v.k.toNat, .wr (b ++ [UInt8.ofNat v.k.toNat]) false) := rfl
  rw [ho1] at hc hf2
  have hv : (valQ v.k.toNat (.wr (b ++ [UInt8.ofNat v.k.toNat]) false) v).1 = v := by
    rcases valQ_wr v ho.1.1 (b ++ [UInt8.ofNat v.k.toNat]) with h | h
    · exact h
    · rw [h] at hf2; cases hf2
  rw [hv] at hc
  obtain ⟨t, h1, h2, h3⟩ := trip_valQ v ho hc _ hf2
  have e1 : (UInt8.ofNat v.k.toNat).toNat = v.k.toNat := by simp; omega
  refine ⟨UInt8.ofNat v.k.toNat :: t, ?_, fun r d hd => ?_, fun p q d hd hq hp => ?_⟩
  · rw [valP_eq, ho1]
    simp only
    rw [h1, fin_eq hc]
    simp
  · subst hd
    rw [valP_eq]
    show fin (valQ (octP (.rd (ba (UInt8.ofNat v.k.toNat :: (t ++ r))) false) _).1 (octP (.rd (ba (UInt8.ofNat v.k.toNat :: (t ++ r))) false) _).2 val0) = _
    rw [oct_rd, e1]
    simp only
    rw [h2 r, fin_eq hc]
  · subst hd
    rw [valP_eq]
    cases p with
    | nil =>
      rw [oct_nil]
      exact fin_bad rfl
    | cons c p =>
      simp only [List.cons_append, List.cons.injEq] at hp
      obtain ⟨rfl, hp⟩ := hp
      rw [oct_rd, e1]
      exact fin_bad (h3 p q hq hp)
def okL {α : Type} (ok : α → Prop) : List α → Prop := fun l => l.length < 18446744073709551616 ∧ ∀ x ∈ l, ok x
theorem to_eq {α : Type} {f : St → α → α × St} {ok : α → Prop} {d : α} (h : Trip f any ok) : Trip f (fun x => x = d) ok := trip_less h (fun _ _ => trivial) (fun _ h => h)
theorem trip_row : Trip rowP any (okL okVal) := trip_list 64 trip_val nice_val
theorem trip_rows : Trip rowsP any (okL (okL okVal)) := trip_list 512 (to_eq trip_row) nice_row
theorem trip_ints : Trip intsP any (okL I64) := trip_list 64 (to_eq trip_long) nice_long
def okStp (s : Stp) : Prop := s.k < 256 ∧ I64 s.n
theorem trip_stp : Trip stpP any okStp := trip_via (to_ := fun s : Stp => (s.k, s.t, s.n)) (of := fun q => ⟨q.1, q.2.1, q.2.2⟩) (h := seqP octP (seqP txtP longP)) (trip_seq trip_oct (trip_seq trip_txt trip_long nice_long) (nice_seqP nice_txt nice_long)) (fun _ _ => rfl) (fun _ _ => ⟨trivial, trivial, trivial⟩) (fun x hx => ⟨hx.1, trivial, hx.2⟩)
theorem trip_stps : Trip stpsP any (okL okStp) := trip_list 64 (to_eq trip_stp) nice_stp
def okItm (s : Itm) : Prop := s.g < 256 ∧ okL okStp s.e
theorem trip_itm : Trip itmP any okItm := trip_via (to_ := fun s : Itm => (s.g, s.e)) (of := fun q => ⟨q.1, q.2⟩) (h := seqP octP stpsP) (trip_seq trip_oct trip_stps nice_stps) (fun _ _ => rfl) (fun _ _ => ⟨trivial, trivial⟩) (fun x hx => hx)
theorem trip_vrs : Trip vrsP any okV := trip_via (to_ := fun s : Vrs => (s.b, s.l)) (of := fun q => ⟨q.1, q.2⟩) (h := seqP numP numP) (trip_seq trip_num trip_num nice_num) (fun _ _ => rfl) (fun _ _ => ⟨trivial, trivial⟩) (fun x hx => hx)
def okSr (s : Sr) : Prop := s.k < 256 ∧ okV s.v ∧ I64 s.s ∧ okL I64 s.f
theorem trip_sr : Trip srP any okSr := trip_via (to_ := fun s : Sr => (s.k, s.t, s.v, s.s, s.f)) (of := fun q => ⟨q.1, q.2.1, q.2.2.1, q.2.2.2.1, q.2.2.2.2⟩) (h := seqP octP (seqP txtP (seqP vrsP (seqP longP intsP)))) (trip_seq trip_oct (trip_seq trip_txt (trip_seq trip_vrs (trip_seq trip_long trip_ints nice_ints) (nice_seqP nice_long nice_ints)) (nice_seqP nice_vrs (nice_seqP nice_long nice_ints))) (nice_seqP nice_txt (nice_seqP nice_vrs (nice_seqP nice_long nice_ints)))) (fun _ _ => rfl) (fun _ _ => ⟨trivial, trivial, trivial, trivial, trivial⟩) (fun x hx => ⟨hx.1, trivial, hx.2.1, hx.2.2.1, hx.2.2.2⟩)
def okCl (c : Cl) : Prop := c.k < 256
theorem trip_cl : Trip clP any okCl := trip_via (to_ := fun s : Cl => (s.n, s.k)) (of := fun q => ⟨q.1, q.2⟩) (h := seqP txtP octP) (trip_seq trip_txt trip_oct nice_oct) (fun _ _ => rfl) (fun _ _ => ⟨trivial, trivial⟩) (fun x hx => ⟨trivial, hx⟩)
theorem trip_cls : Trip clsP any (okL okCl) := trip_list 64 (to_eq trip_cl) nice_cl
def okTbl (t : Tbl) : Prop := okL okCl t.c
theorem trip_tbl : Trip tblP (fun t => t = tbl0) okTbl := fun b t ho hf => by
  have hs : ∀ st (u : Tbl), tblP st u = (⟨(seqP txtP clsP st (u.n, u.c)).1.1, (seqP txtP clsP st (u.n, u.c)).1.2, u.r⟩, if 0 < u.r.length then failP (seqP txtP clsP st (u.n, u.c)).2 else (seqP txtP clsP st (u.n, u.c)).2) := fun st u => rfl
  rw [hs] at hf
  have hr : ¬ 0 < t.r.length := fun h => by
    simp only at hf
    rw [if_pos h, (fail_nice _).2] at hf
    cases hf
  simp only at hf
  rw [if_neg hr] at hf
  obtain ⟨s, h1, h2, h3⟩ := trip_seq trip_txt trip_cls nice_cls b (t.n, t.c) ⟨trivial, ho⟩ hf
  have hr0 : t.r = [] := List.eq_nil_of_length_eq_zero (by omega)
  refine ⟨s, ?_, fun r d hd => ?_, fun p q d hd hq hp => ?_⟩
  · rw [hs, if_neg hr, h1]
  · subst hd
    rw [hs, if_neg (by show ¬ 0 < ([] : List (List Val)).length; simp), h2 r _ ⟨trivial, trivial⟩]
    show ((⟨t.n, t.c, []⟩ : Tbl), _) = _
    rw [← hr0]
  · subst hd
    rw [hs, if_neg (by show ¬ 0 < ([] : List (List Val)).length; simp)]
    exact h3 p q _ ⟨trivial, trivial⟩ hq hp
def okClm (c : Clm) : Prop := okL okCl c.c ∧ okV c.v ∧ okL (okL I64) c.o
theorem nice_owners : Nice (listP 64 intsP []) := nice_list 64 [] nice_ints
theorem trip_owners : Trip (listP 64 intsP []) any (okL (okL I64)) := trip_list 64 (to_eq trip_ints) nice_ints
theorem trip_clm : Trip clmP any okClm := trip_via (to_ := fun s : Clm => (s.t, s.c, s.v, s.o)) (of := fun q => ⟨q.1, q.2.1, q.2.2.1, q.2.2.2⟩) (h := seqP txtP (seqP clsP (seqP vrsP (listP 64 intsP [])))) (trip_seq trip_txt (trip_seq trip_cls (trip_seq trip_vrs trip_owners nice_owners) (nice_seqP nice_vrs nice_owners)) (nice_seqP nice_cls (nice_seqP nice_vrs nice_owners))) (fun _ _ => rfl) (fun _ _ => ⟨trivial, trivial, trivial, trivial⟩) (fun x hx => ⟨trivial, hx.1, hx.2.1, hx.2.2⟩)
end Go.Proofs.YtjpnomkcinfonaaGreatDoor
/- .. and through a message. -/
namespace Go.Proofs.YtjpnomkcinfonaaGreatDoor
set_option linter.unusedVariables false
set_option linter.unusedSimpArgs false
def okBnd (b : Bnd) : Prop := I64 b.w ∧ I64 b.l ∧ I64 b.r ∧ okL okStp b.wh ∧ okL I64 b.g ∧ okL okItm b.i ∧ okL (fun _ => True) b.nm ∧ okL (fun k => k < 256) b.kd
theorem nice_its : Nice (listP 64 itmP itm0) := nice_list 64 itm0 nice_itm
theorem nice_nms : Nice (listP 64 txtP s0) := nice_list 64 s0 nice_txt
theorem nice_kds : Nice (listP 64 octP 0) := nice_list 64 0 nice_oct
theorem trip_its : Trip (listP 64 itmP itm0) any (okL okItm) := trip_list 64 (to_eq trip_itm) nice_itm
theorem trip_nms : Trip (listP 64 txtP s0) any (okL (fun _ => True)) := trip_list 64 (to_eq trip_txt) nice_txt
theorem trip_kds : Trip (listP 64 octP 0) any (okL (fun k => k < 256)) := trip_list 64 (to_eq trip_oct) nice_oct
set_option maxHeartbeats 4000000 in
theorem trip_bnd : Trip bndP any okBnd := by
  have n1 := nice_kds
  have n2 := nice_seqP nice_nms n1
  have n3 := nice_seqP nice_flag n2
  have n4 := nice_seqP nice_its n3
  have n5 := nice_seqP nice_ints n4
  have n6 := nice_seqP nice_stps n5
  have n7 := nice_seqP nice_long n6
  have n8 := nice_seqP nice_long n7
  have n9 := nice_seqP nice_long n8
  have m1 := nice_seqP nice_txt n9
  have hs := trip_seq trip_txt (trip_seq trip_txt (trip_seq trip_long (trip_seq trip_long (trip_seq trip_long (trip_seq trip_stps (trip_seq trip_ints (trip_seq trip_its (trip_seq trip_flag (trip_seq trip_nms trip_kds n1) n2) n3) n4) n5) n6) n7) n8) n9) m1
  exact trip_via (to_ := fun s : Bnd => (s.t, s.j, s.w, s.l, s.r, s.wh, s.g, s.i, s.gr, s.nm, s.kd)) (of := fun q => ⟨q.1, q.2.1, q.2.2.1, q.2.2.2.1, q.2.2.2.2.1, q.2.2.2.2.2.1, q.2.2.2.2.2.2.1, q.2.2.2.2.2.2.2.1, q.2.2.2.2.2.2.2.2.1, q.2.2.2.2.2.2.2.2.2.1, q.2.2.2.2.2.2.2.2.2.2⟩) hs (fun _ _ => rfl) (fun _ _ => ⟨trivial, trivial, trivial, trivial, trivial, trivial, trivial, trivial, trivial, trivial, trivial⟩) (fun x hx => ⟨trivial, trivial, hx.1, hx.2.1, hx.2.2.1, hx.2.2.2.1, hx.2.2.2.2.1, hx.2.2.2.2.2.1, trivial, hx.2.2.2.2.2.2.1, hx.2.2.2.2.2.2.2⟩)
def okFrg (f : Frg) : Prop := I64 f.id ∧ I64 f.nd ∧ okSr f.l ∧ okSr f.r ∧ I64 f.by_ ∧ okL I64 f.to
set_option maxHeartbeats 1000000 in
theorem trip_frg : Trip frgP any okFrg := by
  have n1 := nice_ints
  have n2 := nice_seqP nice_long n1
  have n3 := nice_seqP nice_flag n2
  have n4 := nice_seqP nice_sr n3
  have n5 := nice_seqP nice_sr n4
  have n6 := nice_seqP nice_long n5
  have hs := trip_seq trip_long (trip_seq trip_long (trip_seq trip_sr (trip_seq trip_sr (trip_seq trip_flag (trip_seq trip_long trip_ints n1) n2) n3) n4) n5) n6
  exact trip_via (to_ := fun s : Frg => (s.id, s.nd, s.l, s.r, s.raw, s.by_, s.to)) (of := fun q => ⟨q.1, q.2.1, q.2.2.1, q.2.2.2.1, q.2.2.2.2.1, q.2.2.2.2.2.1, q.2.2.2.2.2.2⟩) hs (fun _ _ => rfl) (fun _ _ => ⟨trivial, trivial, trivial, trivial, trivial, trivial, trivial⟩) (fun x hx => ⟨hx.1, hx.2.1, hx.2.2.1, hx.2.2.2.1, trivial, hx.2.2.2.2.1, hx.2.2.2.2.2⟩)
def okFh (f : Fh) : Prop := okV f.v ∧ I64 f.s ∧ okL okCl f.c
theorem trip_fh : Trip fhP any okFh := by
  have n1 := nice_cls
  have n2 := nice_seqP nice_long n1
  have n3 := nice_seqP nice_vrs n2
  have hs := trip_seq trip_txt (trip_seq trip_vrs (trip_seq trip_long trip_cls n1) n2) n3
  exact trip_via (to_ := fun s : Fh => (s.t, s.v, s.s, s.c)) (of := fun q => ⟨q.1, q.2.1, q.2.2.1, q.2.2.2⟩) hs (fun _ _ => rfl) (fun _ _ => ⟨trivial, trivial, trivial, trivial⟩) (fun x hx => ⟨trivial, hx.1, hx.2.1, hx.2.2⟩)
theorem trip_tbls : Trip (listP 64 tblP tbl0) any (okL okTbl) := trip_list 64 trip_tbl nice_tbl
theorem trip_clms : Trip (listP 64 clmP clm0) any (okL okClm) := trip_list 64 (to_eq trip_clm) nice_clm
/-- A message whose numbers fit. -/
structure OkM (x : Mg) : Prop where
  k : x.k < 256
  bt : x.bt < 18446744073709551616
  q : okV ⟨x.st.qb, x.st.qn⟩
  at_ : I64 x.st.at_
  fr : I64 x.st.fr
  tq : I64 x.st.to
  bd : okBnd x.bd
  ct : okL okTbl x.ct
  fg : okFrg x.fg
  nd : okL I64 x.nd
  sq : x.sq < 18446744073709551616
  rw_ : okL (okL okVal) x.rw
  fh : okFh ⟨x.fl.t, x.fl.v, x.fl.s, x.fl.c⟩
  fw : okL (okL okVal) x.fl.r
  cm : okL okClm x.cm
/-- What a field writes is read again. -/
def FT (i : Nat) (x : Mg) : Prop := ∀ b, failedP (fldP i (.wr b false) x).2 = false → ∃ t, fldP i (.wr b false) x = (x, .wr (b ++ t) false) ∧ (∀ r y, (fldP i (.rd (ba (t ++ r)) false) y).2 = .rd (ba r) false) ∧ (∀ p q y, q ≠ [] → p ++ q = t → failedP (fldP i (.rd (ba p) false) y).2 = true)
theorem ft_of {α : Type} {g : St → α → α × St} {ok : α → Prop} (i : Nat) (x : Mg) (pr : Mg → α) (up : Mg → α → Mg) (hu : up x (pr x) = x) (hg : ∀ st y, fldP i st y = (up y (g st (pr y)).1, (g st (pr y)).2)) (ht : Trip g any ok) (ho : ok (pr x)) : FT i x := fun b hf => by
  rw [hg] at hf
  obtain ⟨t, h1, h2, h3⟩ := ht b (pr x) ho hf
  refine ⟨t, ?_, fun r y => ?_, fun p q y hq hp => ?_⟩
  · rw [hg, h1]
    simp only
    rw [hu]
  · rw [hg, h2 r (pr y) trivial]
  · rw [hg]
    exact h3 p q (pr y) trivial hq hp
theorem fts (x : Mg) (h : OkM x) (i : Nat) (hi : i < 15) : FT i x := by
  match i, hi with
  | 0, _ => exact ft_of 0 x (fun y => y.bt) (fun y a => { y with bt := a }) rfl (fun _ _ => rfl) trip_num h.bt
  | 1, _ => exact ft_of 1 x (fun y => (⟨y.st.qb, y.st.qn⟩ : Vrs)) (fun y a => { y with st := { y.st with qb := a.b, qn := a.l } }) rfl (fun _ _ => rfl) trip_vrs h.q
  | 2, _ => exact ft_of 2 x (fun y => y.st.at_) (fun y a => { y with st := { y.st with at_ := a } }) rfl (fun _ _ => rfl) trip_long h.at_
  | 3, _ => exact ft_of 3 x (fun y => y.st.fr) (fun y a => { y with st := { y.st with fr := a } }) rfl (fun _ _ => rfl) trip_long h.fr
  | 4, _ => exact ft_of 4 x (fun y => y.st.to) (fun y a => { y with st := ⟨y.st.qb, y.st.qn, y.st.at_, y.st.fr, a⟩ }) rfl (fun _ _ => rfl) trip_long h.tq
  | 5, _ => exact ft_of 5 x (fun y => y.bd) (fun y a => { y with bd := a }) rfl (fun _ _ => rfl) trip_bnd h.bd
  | 6, _ => exact ft_of 6 x (fun y => y.ct) (fun y a => { y with ct := a }) rfl (fun _ _ => rfl) trip_tbls h.ct
  | 7, _ => exact ft_of 7 x (fun y => y.fg) (fun y a => { y with fg := a }) rfl (fun _ _ => rfl) trip_frg h.fg
  | 8, _ => exact ft_of 8 x (fun y => y.nd) (fun y a => { y with nd := a }) rfl (fun _ _ => rfl) trip_ints h.nd
  | 9, _ => exact ft_of 9 x (fun y => y.sq) (fun y a => { y with sq := a }) rfl (fun _ _ => rfl) trip_num h.sq
  | 10, _ => exact ft_of 10 x (fun y => y.ls) (fun y a => { y with ls := a }) rfl (fun _ _ => rfl) trip_flag trivial
  | 11, _ => exact ft_of 11 x (fun y => y.rw) (fun y a => { y with rw := a }) rfl (fun _ _ => rfl) trip_rows h.rw_
  | 12, _ => exact ft_of 12 x (fun y => (⟨y.fl.t, y.fl.v, y.fl.s, y.fl.c⟩ : Fh)) (fun y a => { y with fl := { y.fl with t := a.t, v := a.v, s := a.s, c := a.c } }) rfl (fun _ _ => rfl) trip_fh h.fh
  | 13, _ => exact ft_of 13 x (fun y => y.fl.r) (fun y a => { y with fl := { y.fl with r := a } }) rfl (fun _ _ => rfl) trip_rows h.fw
  | 14, _ => exact ft_of 14 x (fun y => y.cm) (fun y a => { y with cm := a }) rfl (fun _ _ => rfl) trip_clms h.cm
theorem trip_go : ∀ n i b x, i + n = 15 → OkM x → failedP (goP true n i (.wr b false) x).2 = false → ∃ t, goP true n i (.wr b false) x = (x, .wr (b ++ t) false) ∧ (∀ r y, y.k = x.k → (goP true n i (.rd (ba (t ++ r)) false) y).2 = .rd (ba r) false) ∧ (∀ p q y, y.k = x.k → q ≠ [] → p ++ q = t → failedP (goP true n i (.rd (ba p) false) y).2 = true)
  | 0, i, b, x, hi, ho, hf => ⟨[], by simp [goP], fun r y hy => rfl, fun p q y hy hq hp => by simp at hp; exact absurd hp.2 hq⟩
  | n + 1, i, b, x, hi, ho, hf => by
    simp only [goP] at hf ⊢
    by_cases hc : (ofK.getD i []).contains x.k = true
    · rw [if_pos hc] at hf ⊢
      have h1 : failedP (fldP i (.wr b false) x).2 = false := by
        cases hs : failedP (fldP i (.wr b false) x).2 with
        | false => rfl
        | true => rw [go_stick true n (i + 1) _ _ hs] at hf; cases hf
      obtain ⟨t, a1, a2, a3⟩ := fts x ho i (by omega) b h1
      rw [a1] at hf ⊢
      obtain ⟨s, b1, b2, b3⟩ := trip_go n (i + 1) (b ++ t) x (by omega) ho hf
      refine ⟨t ++ s, by rw [b1, List.append_assoc], fun r y hy => ?_, fun p q y hy hq hp => ?_⟩
      · rw [hy, if_pos hc, List.append_assoc, a2 (s ++ r) y]
        exact b2 r _ ((fldP_k i _ y).trans hy)
      · rw [hy, if_pos hc]
        rcases split_cut hp hq with ⟨q1, g1, g2⟩ | ⟨p2, rfl, g2⟩
        · exact go_stick true n (i + 1) _ _ (a3 p q1 y g1 g2)
        · rw [a2 p2 y]
          exact b3 p2 q _ ((fldP_k i _ y).trans hy) hq g2
    · rw [if_neg hc] at hf ⊢
      obtain ⟨s, b1, b2, b3⟩ := trip_go n (i + 1) b x (by omega) ho hf
      refine ⟨s, b1, fun r y hy => ?_, fun p q y hy hq hp => ?_⟩
      · rw [hy, if_neg hc]
        exact b2 r y hy
      · rw [hy, if_neg hc]
        exact b3 p q y hy hq hp
theorem trip_msg (x : Mg) (ho : OkM x) (hf : failedP (msgP (.wr [] false) x).2 = false) : ∃ t, msgP (.wr [] false) x = (x, .wr t false) ∧ (∀ r y, (msgP (.rd (ba (t ++ r)) false) y).2 = .rd (ba r) false) ∧ (∀ p q y, q ≠ [] → p ++ q = t → failedP (msgP (.rd (ba p) false) y).2 = true) := by
  have e0 : ∀ st (y : Mg), msgP st y = goP true 15 0 (if (octP st y.k).1 = 0 ∨ 10 ≤ (octP st y.k).1 then failP (octP st y.k).2 else (octP st y.k).2) { y with k := (octP st y.k).1 } := fun _ _ => rfl
  have ew : octP (.wr [] false) x.k = (x.k, .wr [UInt8.ofNat x.k] false) := rfl
  rw [e0, ew] at hf ⊢
  simp only at hf ⊢
  have hk : ¬ (x.k = 0 ∨ 10 ≤ x.k) := fun h => by
    rw [if_pos h] at hf
    rw [go_stick true 15 0 _ _ rfl] at hf
    cases hf
  rw [if_neg hk] at hf ⊢
  obtain ⟨s, b1, b2, b3⟩ := trip_go 15 0 [UInt8.ofNat x.k] x rfl ho hf
  have e1 : (UInt8.ofNat x.k).toNat = x.k := by have := ho.k; simp; omega
  refine ⟨UInt8.ofNat x.k :: s, b1, fun r y => ?_, fun p q y hq hp => ?_⟩
  · rw [e0]
    show (goP true 15 0 (if (octP (.rd (ba (UInt8.ofNat x.k :: (s ++ r))) false) y.k).1 = 0 ∨ 10 ≤ (octP (.rd (ba (UInt8.ofNat x.k :: (s ++ r))) false) y.k).1 then failP (octP (.rd (ba (UInt8.ofNat x.k :: (s ++ r))) false) y.k).2 else (octP (.rd (ba (UInt8.ofNat x.k :: (s ++ r))) false) y.k).2) { y with k := (octP (.rd (ba (UInt8.ofNat x.k :: (s ++ r))) false) y.k).1 }).2 = _
    rw [oct_rd, e1]
    simp only
    rw [if_neg hk]
    exact b2 r _ rfl
  · rw [e0]
    cases p with
    | nil =>
      rw [oct_nil]
      exact go_stick true 15 0 _ _ (by rw [if_pos (.inl rfl)]; rfl)
    | cons c p =>
      simp only [List.cons_append, List.cons.injEq] at hp
      obtain ⟨rfl, hp⟩ := hp
      rw [oct_rd, e1]
      simp only
      rw [if_neg hk]
      exact b3 p q _ rfl hq hp
/-- A text that is cut short is none. -/
theorem cut_bad (x : Mg) (ho : OkM x) (h : wrE x = 0) (k : Nat) (hk : k < (wrS x).size) : rdE ((wrS x).extract 0 k) = 11 := by
  have hw : wrOk x = true := by
    cases hs : wrOk x with
    | true => rfl
    | false => unfold wrE at h; rw [hs] at h; simp at h
  have hf : failedP (wr1 x).2 = false := by
    unfold wrOk at hw
    simp at hw
    exact hw.1
  obtain ⟨t, h1, h2, h3⟩ := trip_msg x ho hf
  have hS : wrS x = ba t := by
    unfold wrS
    rw [hw]
    show (⟨(msgP (.wr [] false) x).2.bytes.toArray⟩ : ByteArray) = _
    rw [h1]
    rfl
  rw [hS] at hk ⊢
  rw [ba_size] at hk
  rw [ba_take]
  have := h3 (t.take k) (t.drop k) mg0 (by
    intro e
    have := congrArg List.length e
    simp at this
    omega) (List.take_append_drop k t)
  have hb : failedP (rd1 (ba (t.take k))).2 = true := this
  unfold rdE rdOk
  rw [hb]
  simp
/-- .. and so is one with bytes more. -/
theorem more_bad (x : Mg) (ho : OkM x) (h : wrE x = 0) (m : ByteArray) : rdE (wrS x ++ m) = if m.size = 0 then 0 else 11 := by
  have hw : wrOk x = true := by
    cases hs : wrOk x with
    | true => rfl
    | false => unfold wrE at h; rw [hs] at h; simp at h
  have hf : failedP (wr1 x).2 = false := by
    unfold wrOk at hw
    simp at hw
    exact hw.1
  obtain ⟨t, h1, h2, h3⟩ := trip_msg x ho hf
  have hS : wrS x = ba t := by
    unfold wrS
    rw [hw]
    show (⟨(msgP (.wr [] false) x).2.bytes.toArray⟩ : ByteArray) = _
    rw [h1]
    rfl
  have hlen : t.length ≤ 65536 := by
    have h5 : failedP (msgP (.wr [] false) x).2 = false := hf
    rw [h1] at h5
    simp [failedP] at h5
    omega
  have hm : ba t ++ m = ba (t ++ m.data.toList) := ba_ext (by simp [ba])
  have hr : (rd1 (ba (t ++ m.data.toList))).2 = .rd (ba m.data.toList) false := h2 m.data.toList mg0
  rw [hS, hm]
  unfold rdE rdOk
  rw [hr]
  have hml : m.data.toList.length = m.size := by simp
  show (if (!(decide (65536 < (ba (t ++ m.data.toList)).size)) && (!false && (ba m.data.toList).size == 0)) = true then (0 : Int) else 11) = _
  rw [ba_size, ba_size, List.length_append, hml]
  by_cases h0 : m.size = 0
  · rw [h0]; simp; omega
  · simp [h0]
end Go.Proofs.YtjpnomkcinfonaaGreatDoor
/- The numbers of a message in memory fit. -/
namespace Go.Proofs.YtjpnomkcinfonaaGreatDoor
set_option linter.unusedVariables false
set_option linter.unusedSimpArgs false
theorem okL_of {α : Type} {rel : Rel α} {ok : α → Prop} (h : ∀ K W cs x, rel K W cs x → ok x) {sz bts : Nat} {K : Nat → Prop} {W : World} {v : Value} {xs : List α} (hb : 0 < bts) (hl : ListIs rel sz bts K W v xs) : okL ok xs := by
  obtain ⟨q, c, rfl, hbt, hh⟩ := hl
  refine ⟨?_, fun x hx => ?_⟩
  · have : xs.length ≤ xs.length * bts := Nat.le_mul_of_pos_right _ hb
    omega
  · obtain ⟨j, hj, rfl⟩ := List.getElem_of_mem hx
    obtain ⟨b, o, rfl, _, he⟩ := hh (by omega)
    obtain ⟨cs, _, _, hr⟩ := he j hj
    exact h _ _ _ _ hr
theorem o_int : ∀ K W cs x, rInt K W cs x → I64 x := fun _ _ _ _ h => h.2
theorem o_txt : ∀ K W cs x, rTxt K W cs x → (fun _ : ByteArray => True) x := fun _ _ _ _ _ => trivial
theorem o_knd : ∀ K W cs x, rKnd K W cs x → (fun k : Nat => k < 256) x := fun _ _ _ _ h => h.2
theorem o_val : ∀ K W cs x, rVal K W cs x → okVal x := fun _ _ _ _ h => ⟨h.2.1, h.2.2.1⟩
theorem o_row : ∀ K W cs x, rRow K W cs x → okL okVal x := fun _ _ _ _ ⟨v, _, h⟩ => okL_of o_val (by omega) h
theorem o_stp : ∀ K W cs x, rStp K W cs x → okStp x := fun _ _ _ _ h => ⟨h.2.1, h.2.2.2⟩
theorem o_itm : ∀ K W cs x, rItm K W cs x → okItm x := fun _ _ _ _ ⟨v, _, h1, h2⟩ => ⟨h1, okL_of o_stp (by omega) h2⟩
theorem o_cl : ∀ K W cs x, rCl K W cs x → okCl x := fun _ _ _ _ h => h.2.2
theorem o_tbl : ∀ K W cs x, rTbl K W cs x → okTbl x := fun _ _ _ _ ⟨v, u, _, _, h1, h2⟩ => okL_of o_cl (by omega) h1
theorem o_ints : ∀ K W cs x, rInts K W cs x → okL I64 x := fun _ _ _ _ ⟨v, _, h⟩ => okL_of o_int (by omega) h
theorem o_sr : ∀ K W cs x, rSr K W cs x → okSr x := fun _ _ _ _ ⟨v, _, h1, _, h3, h4, h5⟩ => ⟨h1, h3, h4, okL_of o_int (by omega) h5⟩
theorem o_clm : ∀ K W cs x, rClm K W cs x → okClm x := fun _ _ _ _ ⟨v, u, _, _, h2, h3, h4⟩ => ⟨okL_of o_cl (by omega) h2, h3, okL_of o_ints (by omega) h4⟩
theorem okM_of {D : Nat → Prop} {W : World} {cur : Array Value} {x : Mg} (h : MsgIs D W cur x) : OkM x := by
  obtain ⟨_, _, _, hbt⟩ := h.bt
  obtain ⟨_, _, _, hqr⟩ := h.qr
  obtain ⟨_, _, _, hat⟩ := h.at_
  obtain ⟨_, _, _, hfr⟩ := h.fr
  obtain ⟨_, _, _, htq⟩ := h.tq
  obtain ⟨_, _, _, hbd⟩ := h.bd
  obtain ⟨_, _, _, hct⟩ := h.ct
  obtain ⟨_, _, _, hfg⟩ := h.fg
  obtain ⟨_, _, _, hnd⟩ := h.nd
  obtain ⟨_, _, _, hsq⟩ := h.sq
  obtain ⟨_, _, _, hrw⟩ := h.rw_
  obtain ⟨_, _, _, hfh⟩ := h.fh
  obtain ⟨_, _, _, hfw⟩ := h.fw
  obtain ⟨_, _, _, hcm⟩ := h.cm
  obtain ⟨_, _, _, _, _, _, _, _, hw, hl, hr, h1, h2, h3, h4, h5⟩ := hbd
  obtain ⟨_, hct⟩ := hct
  obtain ⟨_, _, _, _, f1, f2, f3, f4, f5, f6⟩ := hfg
  obtain ⟨_, _, hrw⟩ := hrw
  obtain ⟨_, _, _, g2, g3, g4⟩ := hfh
  obtain ⟨_, _, hfw⟩ := hfw
  obtain ⟨_, _, hcm⟩ := hcm
  exact ⟨h.kl, hbt.2, ⟨hqr.2.1, hqr.2.2⟩, hat.2, hfr.2, htq.2, ⟨hw, hl, hr, okL_of o_stp (by omega) h1, okL_of o_int (by omega) h2, okL_of o_itm (by omega) h3, okL_of o_txt (by omega) h4, okL_of o_knd (by omega) h5⟩, okL_of o_tbl (by omega) hct.2, ⟨f1, f2, o_sr _ _ _ _ f3, o_sr _ _ _ _ f4, f5, okL_of o_int (by omega) f6⟩, o_ints _ _ _ _ hnd, hsq.2, okL_of o_row (by omega) hrw, ⟨g2, g3, okL_of o_cl (by omega) g4⟩, okL_of o_row (by omega) hfw, okL_of o_clm (by omega) hcm⟩
end Go.Proofs.YtjpnomkcinfonaaGreatDoor
