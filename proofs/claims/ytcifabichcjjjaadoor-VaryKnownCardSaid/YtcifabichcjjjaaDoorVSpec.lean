/-
  Plain mathematics for layer 2: what the document says of fields' bytes, as Lean functions on lists of bytes; no program is named here; conditions: those that each law states.
-/
import Derived.Test.YtcifabichcjjjaaDoorVBs
import Derived.Test.YtcifabichcjjjaaDoorNum
import Derived.Lib.BitFns
namespace Go.Proofs.YtcifabichcjjjaaDoor
open Go.RowKit

/-- A tagged field: a number, or a text. -/
structure Fd where
  tag : Int
  text : Bool
  n : Nat
  s : ByteArray
/-- The field's four cells. -/
def Fd.cells (f : Fd) : List Value := [.int .i64 f.tag, .bool f.text, .int .u64 f.n, .string f.s]
/-- What a variable of the type can hold. -/
def Fd.ok (f : Fd) : Prop := -9223372036854775808 ≤ f.tag ∧ f.tag ≤ 9223372036854775807 ∧ f.n < 18446744073709551616 ∧ f.s.size ≤ 9223372036854775807
/-- The zero field. -/
def Fd.zero : Fd := ⟨0, false, 0, ⟨#[]⟩⟩

/-- May a field be? -/
def mayB (f : Fd) : Bool := decide (1 ≤ f.tag) && decide (f.tag ≤ 63) && (if f.text then f.n == 0 else f.s.size == 0)
/-- Why a field can't be laid behind one of that Tag; 0: it can. -/
def refB (f : Fd) (ahead : Int) : Nat := if mayB f = false then 2 else if f.tag ≤ ahead then 7 else if 2000 < f.s.size then 4 else 0
/-- How many digits a number has to the base 256. -/
def szN (n : Nat) : Nat := (Lib.bitLen n + 7) / 8
/-- A number's bytes. -/
def numB (n : Nat) : List UInt8 := UInt8.ofNat (szN n) :: digits n (szN n)
/-- A field's bytes. -/
def fieldB (f : Fd) : List UInt8 :=
  if f.text then UInt8.ofNat (2 * f.tag + 1).toNat :: (numB f.s.size ++ f.s.data.toList) else UInt8.ofNat (2 * f.tag).toNat :: numB f.n
/-- The Tag of the last one, 0 if there is none. -/
def lastT (l : List Fd) : Int := match l.getLast? with | none => 0 | some f => f.tag
/-- Fields laid behind others. -/
def putGo : Int → List Fd → List UInt8 → List UInt8 × Nat
  | _, [], acc => (acc, 0)
  | a, f :: l, acc => if refB f a = 0 then putGo f.tag l (acc ++ fieldB f) else ([], refB f a)
/-- P2.1. -/
def putS (l : List Fd) : List UInt8 × Nat := if 32 < l.length then ([], 4) else putGo 0 l []

/-- A number's bytes read: the number and what is left, or what is wrong. -/
def numR : List UInt8 → Except Nat (Nat × List UInt8)
  | [] => .error 3
  | k :: r => if 8 < k.toNat then .error 5 else if r.length < k.toNat then .error 3 else if (r.take k.toNat).head? = some 0 then .error 5 else .ok (nat8 (r.take k.toNat), r.drop k.toNat)
/-- Why no field of that Tag can stand behind those of l. -/
def headR (tag : Int) (l : List Fd) : Nat := if l.length = 32 then 4 else if tag < 1 ∨ 63 < tag then 2 else if tag ≤ lastT l then 7 else 0
/-- A text of that size read. -/
def textR (n : Nat) (r : List UInt8) : Except Nat (List UInt8 × List UInt8) := if 2000 < n then .error 4 else if r.length < n then .error 3 else .ok (r.take n, r.drop n)
/-- A field read, behind its first byte. -/
def fieldR (h : UInt8) (r : List UInt8) (l : List Fd) : Except Nat (Fd × List UInt8) :=
  if headR ((h.toNat / 2 : Nat) : Int) l ≠ 0 then .error (headR ((h.toNat / 2 : Nat) : Int) l) else
  match numR r with
  | .error c => .error c
  | .ok (n, r1) =>
    if h.toNat % 2 = 1 then
      match textR n r1 with
      | .error c => .error c
      | .ok (t, r2) => .ok (⟨((h.toNat / 2 : Nat) : Int), true, 0, ⟨t.toArray⟩⟩, r2)
    else .ok (⟨((h.toNat / 2 : Nat) : Int), false, n, ⟨#[]⟩⟩, r1)
/-- The fields of so many bytes, behind those of l; how many bytes were there in all. -/
def readGo (all : Nat) : Nat → List Fd → List UInt8 → Except (Nat × Nat) (List Fd)
  | 0, l, _ => .ok l
  | _ + 1, l, [] => .ok l
  | fuel + 1, l, h :: r =>
    match fieldR h r l with
    | .error c => .error (c, all - (r.length + 1))
    | .ok (f, r') => readGo all fuel (l ++ [f]) r'
/-- P2.2. -/
def readS (s : List UInt8) : Except (Nat × Nat) (List Fd) := readGo s.length s.length [] s
/-- P2.3. -/
def findS (l : List Fd) (tag : Int) : Option Fd := l.find? fun f => f.tag == tag

theorem numR_less {r r' : List UInt8} {n : Nat} (h : numR r = .ok (n, r')) : r'.length < r.length := by
  unfold numR at h
  split at h
  · cases h
  · split at h
    · cases h
    · split at h
      · cases h
      · split at h
        · cases h
        · injection h with h; injection h with _ h; subst h; simp; omega
theorem fieldR_le {h : UInt8} {r r' : List UInt8} {l : List Fd} {f : Fd} (e : fieldR h r l = .ok (f, r')) : r'.length ≤ r.length := by
  unfold fieldR at e
  split at e
  · cases e
  · cases hn : numR r with
    | error c => rw [hn] at e; cases e
    | ok p =>
      obtain ⟨n, r1⟩ := p
      have := numR_less hn
      rw [hn] at e
      simp only at e
      split at e
      · cases ht : textR n r1 with
        | error c => rw [ht] at e; cases e
        | ok q =>
          obtain ⟨t, r2⟩ := q
          rw [ht] at e
          simp only at e
          injection e with e; injection e with _ e; subst e
          unfold textR at ht
          split at ht
          · cases ht
          · split at ht
            · cases ht
            · injection ht with ht; injection ht with _ ht; subst ht; simp; omega
      · injection e with e; injection e with _ e; subst e; omega
theorem readGo_fuel (all : Nat) : ∀ (n m : Nat) (l : List Fd) (r : List UInt8), r.length ≤ n → r.length ≤ m → readGo all n l r = readGo all m l r := by
  intro n
  induction n with
  | zero =>
    intro m l r h1 h2
    have : r = [] := List.eq_nil_of_length_eq_zero (by omega)
    subst this
    cases m <;> rfl
  | succ n ih =>
    intro m l r h1 h2
    cases r with
    | nil => cases m <;> rfl
    | cons h r =>
      simp at h1 h2
      cases m with
      | zero => omega
      | succ m =>
        unfold readGo
        cases hf : fieldR h r l with
        | error c => rfl
        | ok p =>
          obtain ⟨f, r'⟩ := p
          have := fieldR_le hf
          exact ih m _ _ (by omega) (by omega)
theorem readGo_ok {all : Nat} {l : List Fd} {h : UInt8} {r r' : List UInt8} {f : Fd} (e : fieldR h r l = .ok (f, r')) : readGo all (h :: r).length l (h :: r) = readGo all r'.length (l ++ [f]) r' := by
  have := fieldR_le e
  rw [List.length_cons, readGo, e]
  exact readGo_fuel _ _ _ _ _ (by omega) (Nat.le_refl _)
theorem readGo_err {all : Nat} {l : List Fd} {h : UInt8} {r : List UInt8} {c : Nat} (e : fieldR h r l = .error c) : readGo all (h :: r).length l (h :: r) = .error (c, all - (r.length + 1)) := by
  rw [List.length_cons, readGo, e]
theorem readGo_nil (all n : Nat) (l : List Fd) : readGo all n l [] = .ok l := by cases n <;> rfl

theorem bitLen_le (n : Nat) : Lib.bitLen n ≤ 64 := by
  have : ∀ f x, Lib.bitLenAux f x ≤ f := by
    intro f
    induction f with
    | zero => intro x; simp [Lib.bitLenAux]
    | succ f ih => intro x; simp only [Lib.bitLenAux]; (have := ih (x / 2); split <;> omega)
  exact this 64 n
theorem szN_le (n : Nat) : szN n ≤ 8 := by have := bitLen_le n; unfold szN; omega
theorem numB_length (n : Nat) : (numB n).length ≤ 9 := by have := szN_le n; simp [numB, digits_length]; omega
theorem fieldB_length (f : Fd) (h : f.s.size ≤ 2000) : (fieldB f).length ≤ 2010 := by
  unfold fieldB
  have h1 := numB_length f.s.size
  have h2 := numB_length f.n
  split <;> simp <;> omega
end Go.Proofs.YtcifabichcjjjaaDoor
