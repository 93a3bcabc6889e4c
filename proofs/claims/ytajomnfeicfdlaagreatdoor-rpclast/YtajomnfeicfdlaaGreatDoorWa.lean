/- What goes through a port, as plain functions: the writer's bytes, the blank's flag, the reader's rest. -/
import Derived.Lib.Walk
namespace Go.Proofs.YtajomnfeicfdlaaGreatDoor
set_option linter.unusedVariables false
/-- How far a port is. -/
abbrev St := (List UInt8 × Bool) ⊕ (Bool ⊕ (ByteArray × Bool))
abbrev St.wr (b : List UInt8) (f : Bool) : St := .inl (b, f)
abbrev St.bl (f : Bool) : St := .inr (.inl f)
abbrev St.rd (r : ByteArray) (f : Bool) : St := .inr (.inr (r, f))
theorem St.three {motive : St → Prop} (st : St) (wr : ∀ b f, motive (.wr b f)) (bl : ∀ f, motive (.bl f)) (rd : ∀ r f, motive (.rd r f)) : motive st :=
 match st with
 | .inl (b, f) => wr b f
 | .inr (.inl f) => bl f
 | .inr (.inr (r, f)) => rd r f
def St.len : St → Nat
 | .inl (b, _) => b.length
 | _ => 0
/-- Whether it reads. -/
def St.reads : St → Bool
 | .inr (.inr (_, _)) => true
 | _ => false
def failP : St → St
 | .inl (b, _) => .wr b true
 | .inr (.inl _) => .bl true
 | .inr (.inr (r, _)) => .rd r true
def failedP : St → Bool
 | .inl (b, f) => f || decide (65536 < b.length)
 | .inr (.inl f) => f
 | .inr (.inr (_, f)) => f
/-- The next bytes of a text. -/
def takeP (r : ByteArray) (f : Bool) (n : Nat) : ByteArray × St :=
 if r.size < n then (⟨#[]⟩, .rd r true) else (r.extract 0 n, .rd (r.extract n r.size) f)
def octP (st : St) (k : Nat) : Nat × St :=
 match st with
 | .inl (b, f) => (k, .wr (b ++ [UInt8.ofNat k]) f)
 | .inr (.inl f) => (k, if k = 0 then .bl f else .bl true)
 | .inr (.inr (r, f)) => if r.size < 1 then (0, .rd r true) else (((r.extract 0 1).data[0]?.getD 0).toNat, .rd (r.extract 1 r.size) f)
/-- A number's groups. -/
def vnF : Nat → Nat → List UInt8
 | 0, n => [UInt8.ofNat n]
 | f + 1, n => if n < 128 then [UInt8.ofNat n] else UInt8.ofNat (n % 128 + 128) :: vnF f (n / 128)
def vn (n : Nat) : List UInt8 := vnF 9 n
def rnF : Nat → Nat → Nat → St → Nat × St
 | 0, _, _, st => (0, failP st)
 | k + 1, i, acc, st =>
  let b := (octP st 0).1
  let acc' := (acc + b % 128 * 2 ^ (7 * i)) % 18446744073709551616
  if 128 ≤ b then rnF k (i + 1) acc' (octP st 0).2
  else if (b = 0 ∧ 0 < i) ∨ (1 < b ∧ i = 9) then (0, failP (octP st 0).2) else (acc', (octP st 0).2)
def numP (st : St) (n : Nat) : Nat × St :=
 match st with
 | .inl (b, f) => (n, .wr (b ++ vn n) f)
 | .inr (.inl f) => (n, if n = 0 then .bl f else .bl true)
 | .inr (.inr (r, f)) => rnF 10 0 0 (.rd r f)
def txtP (st : St) (s : ByteArray) : ByteArray × St :=
 match st with
 | .inl (b, f) => if 2048 < s.size then (s, .wr b true) else (s, .wr (b ++ vn s.size ++ s.data.toList) f)
 | .inr (.inl f) => (s, if s.size = 0 then .bl f else .bl true)
 | .inr (.inr (r, f)) =>
  match rnF 10 0 0 (.rd r f) with
  | (n, .inr (.inr (r', f'))) => if 2048 < n then (⟨#[]⟩, .rd r' true) else takeP r' f' n
  | (_, st') => (⟨#[]⟩, st')
def flagP (st : St) (b : Bool) : Bool × St :=
 let r := octP st (if b then 1 else 0)
 (r.1 == 1, if 1 < r.1 then failP r.2 else r.2)
/-- A number that may be below 0, as one from 0 on, and back. -/
def zig (n : Int) : Nat := if n < 0 then 2 * (-(n + 1)).toNat + 1 else 2 * n.toNat
def zag (u : Nat) : Int := if u % 2 = 1 then -((u / 2 : Nat) : Int) - 1 else ((u / 2 : Nat) : Int)
def longP (st : St) (n : Int) : Int × St := let r := numP st (zig n); (zag r.1, r.2)
/-- The parts of a list that is not read. -/
def eachP {α : Type} (part : St → α → α × St) : St → List α → St
 | st, [] => st
 | st, x :: xs => if failedP st then st else eachP part (part st x).2 xs
/-- .. and of one that is. -/
def takenP {α : Type} (part : St → α → α × St) (d : α) : Nat → St → List α → List α × St
 | 0, st, acc => (acc, st)
 | n + 1, st, acc => if failedP st then ([], st) else takenP part d n (part st d).2 (acc ++ [(part st d).1])
def listP {α : Type} (most : Nat) (part : St → α → α × St) (d : α) (st : St) (l : List α) : List α × St :=
 let r := numP st l.length
 let st2 := if most < r.1 then failP r.2 else r.2
 if st2.reads then takenP part d r.1 st2 [] else (l, eachP part st2 l)

/-- A port stays what it is. -/
def St.like : St → St → Bool
 | .inl (_, _), .inl (_, _) => true
 | .inr (.inl _), .inr (.inl _) => true
 | .inr (.inr (_, _)), .inr (.inr (_, _)) => true
 | _, _ => false
/-- Of no more bytes than that behind a step. -/
def St.most (st : St) (c : Nat) : Nat := max st.len 65536 + c
theorem vnF_length : ∀ f n, (vnF f n).length ≤ f + 1
 | 0, n => by simp [vnF]
 | f + 1, n => by
  have := vnF_length f (n / 128)
  simp only [vnF]
  split <;> simp <;> omega
theorem vn_length (n : Nat) : (vn n).length ≤ 10 := vnF_length 9 n
theorem failP_len (st : St) : (failP st).len = st.len := by cases st using St.three <;> rfl
theorem octP_len (st : St) (k : Nat) : (octP st k).2.len ≤ st.len + 1 := by
 cases st using St.three with
 | wr b f => simp [octP, St.len]
 | bl f => simp only [octP]; split <;> simp [St.len]
 | rd r f => simp only [octP]; split <;> simp [St.len]
theorem octP_reads (st : St) (k : Nat) : (octP st k).2.reads = st.reads := by
 cases st using St.three with
 | wr b f => rfl
 | bl f => simp only [octP]; split <;> rfl
 | rd r f => simp only [octP]; split <;> rfl
theorem failP_reads (st : St) : (failP st).reads = st.reads := by cases st using St.three <;> rfl
theorem rnF_rd : ∀ k i acc r f, ∃ r' f', (rnF k i acc (.rd r f)).2 = .rd r' f'
 | 0, i, acc, r, f => ⟨_, _, rfl⟩
 | k + 1, i, acc, r, f => by
  obtain ⟨r1, f1, h1⟩ : ∃ r1 f1, (octP (.rd r f) 0).2 = .rd r1 f1 := by
   simp only [octP]; split <;> exact ⟨_, _, rfl⟩
  simp only [rnF, h1]
  split
  ·exact rnF_rd k (i + 1) _ r1 f1
  ·split
   ·exact ⟨_, _, rfl⟩
   ·exact ⟨_, _, rfl⟩
theorem numP_len (st : St) (n : Nat) : (numP st n).2.len ≤ st.len + 10 := by
 cases st using St.three with
 | wr b f => have := vn_length n; simp [numP, St.len]; omega
 | bl f => simp only [numP]; split <;> simp [St.len]
 | rd r f =>
  obtain ⟨r', f', h⟩ := rnF_rd 10 0 0 r f
  simp only [numP, h, St.len]
  omega
theorem numP_reads (st : St) (n : Nat) : (numP st n).2.reads = st.reads := by
 cases st using St.three with
 | wr b f => rfl
 | bl f => simp only [numP]; split <;> rfl
 | rd r f =>
  obtain ⟨r', f', h⟩ := rnF_rd 10 0 0 r f
  simp only [numP, h, St.reads]
theorem txtP_len (st : St) (s : ByteArray) : (txtP st s).2.len ≤ st.len + 2058 := by
 cases st using St.three with
 | wr b f =>
  simp only [txtP]
  split
  ·simp [St.len]
  ·have := vn_length s.size
   have h2 : s.data.toList.length = s.size := by simp
   simp [St.len]; omega
 | bl f => simp only [txtP]; split <;> simp [St.len]
 | rd r f =>
  obtain ⟨r', f', h⟩ := rnF_rd 10 0 0 r f
  obtain ⟨⟨n, st'⟩, hr⟩ : ∃ q, rnF 10 0 0 (.rd r f) = q := ⟨_, rfl⟩
  rw [hr] at h
  simp only at h
  subst h
  simp only [txtP, hr]
  split
  ·simp [St.len]
  ·simp only [takeP]; split <;> simp [St.len]
theorem txtP_reads (st : St) (s : ByteArray) : (txtP st s).2.reads = st.reads := by
 cases st using St.three with
 | wr b f => simp only [txtP]; split <;> rfl
 | bl f => simp only [txtP]; split <;> rfl
 | rd r f =>
  obtain ⟨r', f', h⟩ := rnF_rd 10 0 0 r f
  obtain ⟨⟨n, st'⟩, hr⟩ : ∃ q, rnF 10 0 0 (.rd r f) = q := ⟨_, rfl⟩
  rw [hr] at h
  simp only at h
  subst h
  simp only [txtP, hr]
  split
  ·rfl
  ·simp only [takeP]; split <;> rfl
theorem failedP_len {st : St} (h : failedP st = false) : st.len ≤ 65536 := by
 cases st using St.three with
 | wr b f => simp [failedP] at h; simp [St.len]; omega
 | bl f => simp [St.len]
 | rd r f => simp [St.len]
end Go.Proofs.YtajomnfeicfdlaaGreatDoor
