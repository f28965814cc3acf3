/-
  Plain mathematics of VaryKnown: the fields and the rows that the statement lays, the texts that it reads, and what the document says of each; conditions: the long text has 2001 bytes.
-/
import Derived.Test.YtcifabichcjjjaaDoorVSpec
namespace Go.Proofs.YtcifabichcjjjaaDoor
open Go.RowKit
/-- The first k of the fields that the statement lays. -/
def manyF (k : Nat) : List Fd := (List.range k).map fun i => ⟨((i + 1 : Nat) : Int), false, i + 1, ⟨#[]⟩⟩
theorem manyF_succ (k : Nat) : manyF (k + 1) = manyF k ++ [⟨((k + 1 : Nat) : Int), false, k + 1, ⟨#[]⟩⟩] := by
  simp [manyF, List.range_succ]
theorem manyF_length (k : Nat) : (manyF k).length = k := by simp [manyF]
/-- The rows that the statement lays: fields, and what is wrong with them. -/
def rowsK (S : ByteArray) : List (List Fd × Int) := [([], 0), ((manyF 33).take 32, 0), (manyF 33, 4), ([⟨0, false, 0, ⟨#[]⟩⟩], 2), ([⟨64, false, 0, ⟨#[]⟩⟩], 2), ([⟨(-1), false, 0, ⟨#[]⟩⟩], 2), ([⟨1, false, 0, ⟨#[97]⟩⟩], 2), ([⟨1, true, 1, ⟨#[]⟩⟩], 2), ([⟨2, false, 1, ⟨#[]⟩⟩, ⟨2, false, 1, ⟨#[]⟩⟩], 7), ([⟨1, true, 0, S⟩], 4), ([⟨1, true, 0, (S.extract 1 S.size)⟩], 0), ([⟨1, false, 18446744073709551615, ⟨#[]⟩⟩], 0)]
theorem manyF_ok (k : Nat) (hk : k ≤ 33) : ∀ f ∈ manyF k, f.ok := by
  intro f hf
  simp only [manyF, List.mem_map, List.mem_range] at hf
  obtain ⟨i, hi, rfl⟩ := hf
  refine ⟨?_, ?_, ?_, ?_⟩
  · show (-9223372036854775808 : Int) ≤ ((i + 1 : Nat) : Int); omega
  · show ((i + 1 : Nat) : Int) ≤ 9223372036854775807; omega
  · show i + 1 < 18446744073709551616; omega
  · show (⟨#[]⟩ : ByteArray).size ≤ 9223372036854775807; decide
theorem one_ok (tag : Int) (text : Bool) (n : Nat) (s : ByteArray) (h1 : -9223372036854775808 ≤ tag) (h2 : tag ≤ 9223372036854775807) (h3 : n < 18446744073709551616) (h4 : s.size ≤ 9223372036854775807) : ∀ f ∈ [(⟨tag, text, n, s⟩ : Fd)], f.ok := by
  intro f hf
  obtain rfl := List.mem_singleton.1 hf
  exact ⟨h1, h2, h3, h4⟩
theorem put_one (f : Fd) : (putS [f]).2 = refB f 0 := by
  unfold putS
  rw [if_neg (by simp)]
  unfold putGo
  by_cases h : refB f 0 = 0
  · rw [if_pos h, h]; rfl
  · rw [if_neg h]
theorem rowsK_put (S : ByteArray) (hS : S.size = 2001) : ∀ (j : Nat) l c, (rowsK S)[j]? = some (l, c) → (∀ f ∈ l, f.ok) ∧ l.length ≤ 1000000 ∧ ∃ n : Nat, (putS l).2 = n ∧ c = (n : Int) := by
  intro j l c h
  have hm : (l, c) ∈ rowsK S := List.mem_of_getElem? h
  clear h
  simp only [rowsK, List.mem_cons, Prod.mk.injEq, List.not_mem_nil, or_false] at hm
  rcases hm with ⟨rfl, rfl⟩ | ⟨rfl, rfl⟩ | ⟨rfl, rfl⟩ | ⟨rfl, rfl⟩ | ⟨rfl, rfl⟩ | ⟨rfl, rfl⟩ | ⟨rfl, rfl⟩ | ⟨rfl, rfl⟩ | ⟨rfl, rfl⟩ | ⟨rfl, rfl⟩ | ⟨rfl, rfl⟩ | ⟨rfl, rfl⟩
  · exact ⟨by simp, by decide, 0, rfl, rfl⟩
  · exact ⟨fun f hf => manyF_ok 33 (by decide) f (List.mem_of_mem_take hf), by simp only [List.length_take, manyF_length]; omega, 0, by decide +kernel, rfl⟩
  · exact ⟨manyF_ok 33 (by decide), by rw [manyF_length]; decide, 4, by decide +kernel, rfl⟩
  · exact ⟨one_ok _ _ _ _ (by decide) (by decide) (by decide) (by decide), by decide, 2, by decide +kernel, rfl⟩
  · exact ⟨one_ok _ _ _ _ (by decide) (by decide) (by decide) (by decide), by decide, 2, by decide +kernel, rfl⟩
  · exact ⟨one_ok _ _ _ _ (by decide) (by decide) (by decide) (by decide), by decide, 2, by decide +kernel, rfl⟩
  · exact ⟨one_ok _ _ _ _ (by decide) (by decide) (by decide) (by decide), by decide, 2, by decide +kernel, rfl⟩
  · exact ⟨one_ok _ _ _ _ (by decide) (by decide) (by decide) (by decide), by decide, 2, by decide +kernel, rfl⟩
  · refine ⟨?_, by decide, 7, by decide +kernel, rfl⟩
    intro f hf
    have : f = ⟨2, false, 1, ⟨#[]⟩⟩ := by simpa using hf
    subst this
    exact one_ok _ _ _ _ (by decide) (by decide) (by decide) (by decide) _ (List.mem_singleton.2 rfl)
  · exact ⟨one_ok _ _ _ _ (by decide) (by decide) (by decide) (by omega), by simp, 4, by rw [put_one]; simp [refB, mayB, hS], rfl⟩
  · exact ⟨one_ok _ _ _ _ (by decide) (by decide) (by decide) (by simp; omega), by simp, 0, by rw [put_one]; simp [refB, mayB, hS], rfl⟩
  · exact ⟨one_ok _ _ _ _ (by decide) (by decide) (by decide) (by decide), by decide, 0, by decide +kernel, rfl⟩

/-- The texts that the statement reads, what is wrong with each, and where. -/
def textsK : List (ByteArray × Nat × Nat) := [(⟨#[]⟩, 0, 0), (⟨#[0]⟩, 2, 0), (⟨#[1, 0]⟩, 2, 0), (⟨#[128, 0]⟩, 2, 0), (⟨#[2]⟩, 3, 0), (⟨#[2, 9]⟩, 5, 0), (⟨#[2, 2, 1]⟩, 3, 0), (⟨#[2, 0, 2, 0]⟩, 7, 2), (⟨#[2, 0, 3, 0]⟩, 7, 2), (⟨#[3, 1, 5, 97]⟩, 3, 0), (⟨#[3, 2, 7, 209]⟩, 4, 0), (⟨#[3, 8, 255, 255, 255, 255, 255, 255, 255, 255]⟩, 4, 0), (⟨#[2, 8, 255, 255, 255, 255, 255, 255, 255, 255]⟩, 0, 0), (⟨#[2, 8, 0, 255, 255, 255, 255, 255, 255, 255]⟩, 5, 0), (⟨#[2, 0, 4, 1]⟩, 3, 2), (⟨#[5, 0, 127, 0]⟩, 0, 0)]
/-- Is a text read so? -/
def readAs (l : List UInt8) (c p : Nat) : Bool := match readS l with | .ok _ => c == 0 | .error q => c != 0 && (q.1 == c && q.2 == p)
theorem textsK_all : (textsK.all fun x => readAs x.1.data.toList x.2.1 x.2.2 && decide (x.1.size ≤ 1000000)) = true := by decide +kernel
theorem read_as {l : List UInt8} {c p : Nat} (h : readAs l c p = true) : (c = 0 ∧ ∃ m, readS l = .ok m) ∨ (c ≠ 0 ∧ readS l = .error (c, p)) := by
  unfold readAs at h
  cases hr : readS l with
  | ok m => rw [hr] at h; exact Or.inl ⟨by simpa using h, m, rfl⟩
  | error q =>
    obtain ⟨q1, q2⟩ := q
    rw [hr] at h
    simp only [Bool.and_eq_true, bne_iff_ne, beq_iff_eq] at h
    obtain ⟨h1, rfl, rfl⟩ := h
    exact Or.inr ⟨h1, rfl⟩
end Go.Proofs.YtcifabichcjjjaaDoor
