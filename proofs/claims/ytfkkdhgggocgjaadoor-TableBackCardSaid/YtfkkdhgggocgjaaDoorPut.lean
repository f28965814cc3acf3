/-
  What PText lays and what the statements' own 'put' lays, and a slice's text, over this seat's translation; conditions: the slice reads as bytes, at most half a million of them, the text has at most half a million.
-/
import Derived.Test.YtfkkdhgggocgjaaDoorLay
namespace Go.Proofs.YtfkkdhgggocgjaaDoor
open Go.RowKit

theorem digits_mod (k : Nat) : ∀ n, digits (n % 256 ^ k) k = digits n k := by
  induction k with
  | zero => intro n; rfl
  | succ k ih =>
    intro n
    have h1 : n % 256 ^ (k + 1) / 256 = n / 256 % 256 ^ k := by
      rw [Nat.pow_succ, Nat.mul_comm, Nat.mod_mul_right_div_self]
    have h2 : n % 256 ^ (k + 1) % 256 = n % 256 := by
      rw [Nat.pow_succ, Nat.mul_comm]; exact Nat.mod_mul_right_mod n 256 _
    simp only [digits, h1, h2, ih]
theorem conv_bs (w : World) (v : Value) (l : List UInt8) (h : Bs w v l) : (convert 33 9 v).run Tryd.prog w = .ok (.string ⟨l.toArray⟩) w := by
  obtain ⟨ao, cap, rfl, _, hnil, hcell⟩ := h
  cases ao with
  | none =>
    have := (hnil rfl).1
    have hl : l = [] := List.eq_nil_of_length_eq_zero this
    subst hl
    exact run_convert_bytes_nil w 33 5 Tryd.underlying33 Tryd.underlying5 _ _ 9 Tryd.underlying9
  | some a =>
    exact run_convert_bytes_back w 33 9 5 a cap l Tryd.underlying33 Tryd.underlying5 Tryd.underlying9 fun j hj => hcell a rfl j _ (by simp [bcells, hj])

theorem gb_own {W w w' : World} {e : TypeId} {size : Nat} {v : Value} {n : Nat} {xs : List Value} (hg : W.grownBy w none) (ho : w.ownsRow W.heap.size e size v n xs) (h2 : w.grownBy w' v.ownBlock) : W.grownBy w' none := by
  refine ⟨h2.os.trans hg.os, h2.tape.trans hg.tape, h2.output.trans hg.output, Nat.le_trans hg.size h2.size, ?_⟩
  intro k hk _
  rw [← hg.block k hk (by simp)]
  refine h2.block k (Nat.lt_of_lt_of_le hk hg.size) ?_
  intro e
  have := (ho.lt k e.symm).1
  omega

end Go.Proofs.YtfkkdhgggocgjaaDoor

