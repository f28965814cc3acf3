/-
  Keys of made nodes rise; where a key is told among keys that rise: plain mathematics, over this seat's translation; no conditions beside those that each law states.
-/
import Derived.Test.YthhimhjegodklaaGreatNzc
namespace Go.Proofs.YthhimhjegodklaaGreat.N11
set_option linter.unusedSimpArgs false
set_option linter.unusedVariables false
open Go.RowKit
theorem key_lt (h : ByteArray) (L : List UInt8) (i j : Nat) (hij : i < j) (hj : j < 255) : ltS (keyF h L i) (keyF h L j) = true := by
  rw [ltS_iff]
  show keyL h L i < keyL h L j
  unfold keyL
  refine List.append_left_lt ?_
  rw [List.cons_lt_cons_iff]
  left
  rw [UInt8.lt_iff_toNat_lt, UInt8.toNat_ofNat', UInt8.toNat_ofNat']
  omega
theorem keys_pair (h : ByteArray) (L : List UInt8) (k : Nat) (hk : k ≤ 255) : (keysM h L k).Pairwise (fun a b => ltS a b = true) := by
  unfold keysM
  rw [List.pairwise_map]
  refine List.Pairwise.imp_of_mem ?_ (List.pairwise_lt_range (n := k))
  intro a b ha hb hab
  exact key_lt h L a b hab (by have := List.mem_range.1 hb; omega)
theorem cellM_key (h : ByteArray) (L : List UInt8) (i : Nat) : (cellM h L i).key = keyF h L i := by
  unfold cellM; split <;> rfl
theorem cells_pair (h : ByteArray) (L : List UInt8) (k : Nat) (hk : k ≤ 255) : (cellsM h L k).Pairwise (fun a b => ltS a.key b.key = true) := by
  unfold cellsM
  rw [List.pairwise_map]
  refine List.Pairwise.imp_of_mem ?_ (List.pairwise_lt_range (n := k))
  intro a b ha hb hab
  rw [cellM_key, cellM_key]
  exact key_lt h L a b hab (by have := List.mem_range.1 hb; omega)
theorem ahead_pair {α : Type} (R : α → α → Prop) (p : α → Bool) (hp : ∀ a b, R a b → p b = true → p a = true) : ∀ (l : List α), l.Pairwise R → ∀ j x, l[j]? = some x → decide (j < aheadF p l) = p x := by
  intro l
  induction l with
  | nil => intro _ j x hx; cases hx
  | cons y l ih =>
    intro hl j x hx
    rw [List.pairwise_cons] at hl
    rw [aheadF_cons]
    cases j with
    | zero =>
      cases hx
      cases p y <;> simp
    | succ j =>
      rw [List.getElem?_cons_succ] at hx
      have hm : x ∈ l := List.mem_of_getElem? hx
      have h1 := ih hl.2 j x hx
      by_cases hy : p y = true
      · rw [if_pos hy, ← h1]
        simp
      · rw [if_neg hy]
        cases hpx : p x with
        | false => simp
        | true => exact absurd (hp y x (hl.1 x hm) hpx) hy
theorem leaf_ahead (h : ByteArray) (L : List UInt8) (k : Nat) (hk : k ≤ 255) (key : ByteArray) (j : Nat) (x : Ce) (hx : (cellsM h L k)[j]? = some x) : decide (j < aheadF (fun c : Ce => ltS c.key key) (cellsM h L k)) = ltS x.key key :=
  ahead_pair (fun a b : Ce => ltS a.key b.key = true) _ (fun _ _ h1 h2 => ltS_trans h1 h2) _ (cells_pair h L k hk) j x hx
theorem inner_ahead (h : ByteArray) (L : List UInt8) (k : Nat) (hk : k ≤ 255) (key : ByteArray) (j : Nat) (x : ByteArray) (hx : (keysM h L k)[j]? = some x) : decide (j < aheadF (fun c => leS c key) (keysM h L k)) = leS x key :=
  ahead_pair (fun a b : ByteArray => ltS a b = true) _ (fun a b h1 h2 => by
    have h3 := lt_le h1 h2
    rw [leS_iff]
    exact .inl ((ltS_iff _ _).1 h3)) _ (keys_pair h L k hk) j x hx
theorem cellsM_length (h : ByteArray) (L : List UInt8) (k : Nat) : (cellsM h L k).length = k := by unfold cellsM; simp
theorem keysM_length (h : ByteArray) (L : List UInt8) (k : Nat) : (keysM h L k).length = k := by unfold keysM; simp
theorem leafM_half (h : ByteArray) (L : List UInt8) : (leafM h L).Half := ⟨by unfold leafM; rw [cellsM_length]; omega, Nat.zero_le 100000, Nat.zero_le 100000⟩
theorem innerM_half (h : ByteArray) (L : List UInt8) : (innerM h L).Half := ⟨Nat.zero_le 100000, by unfold innerM; rw [keysM_length]; omega, by unfold innerM kidsM; simp; omega⟩
end Go.Proofs.YthhimhjegodklaaGreat.N11

