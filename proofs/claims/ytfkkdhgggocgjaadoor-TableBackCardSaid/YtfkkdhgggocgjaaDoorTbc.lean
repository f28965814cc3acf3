/-
  Changes of a table, as a slice of them lies in memory, over this seat's translation; no conditions beside.
-/
import Derived.Test.YtfkkdhgggocgjaaDoorTbb
namespace Go.Proofs.YtfkkdhgggocgjaaDoor
open Go.RowKit

/-- A change. -/
structure PutT where
  page : Nat
  sect : Nat
  gone : Bool
def PutT.Fit (x : PutT) : Prop := x.page < 65536 ∧ x.sect < 65536
def putC1 (x : PutT) : List Value := [.int .u16 (x.page : Nat), .int .u16 (x.sect : Nat), .bool x.gone]
def putsC (l : List PutT) : List Value := l.flatMap putC1
theorem putsC_length : ∀ l : List PutT, (putsC l).length = l.length * 3
  | [] => rfl
  | x :: l => by
    have := putsC_length l
    unfold putsC at this ⊢
    rw [List.flatMap_cons, List.length_append, this]
    simp only [putC1, List.length_cons, List.length_nil]
    omega
theorem putsC_at : ∀ (l : List PutT) (k : Nat) (hk : k < l.length) (j : Nat) (_ : j < 3), (putsC l)[k * 3 + j]? = (putC1 l[k])[j]?
  | [], _, hk, _, _ => by simp at hk
  | x :: l, 0, _, j, hj => by
    unfold putsC
    rw [List.flatMap_cons, Nat.zero_mul, Nat.zero_add, List.getElem?_append_left (by show j < 3; exact hj)]
    rfl
  | x :: l, k + 1, hk, j, hj => by
    have ih := putsC_at l k (by simpa using hk) j hj
    unfold putsC at ih ⊢
    have h1 : (putC1 x).length = 3 := rfl
    rw [List.flatMap_cons, List.getElem?_append_right (by rw [h1]; omega), h1, show (k + 1) * 3 + j - 3 = k * 3 + j by omega, ih]
    rfl
def Pts (w : World) (v : Value) (l : List PutT) : Prop := Sl 3 w v l.length (putsC l) ∧ ∀ x ∈ l, x.Fit
end Go.Proofs.YtfkkdhgggocgjaaDoor

