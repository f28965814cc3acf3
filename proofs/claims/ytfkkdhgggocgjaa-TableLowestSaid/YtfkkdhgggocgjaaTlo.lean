/-
  A slice of numbers of 16 bits that came in, over this seat's translation; no conditions beside.
-/
import Derived.Test.YtfkkdhgggocgjaaPRow
import Derived.Test.YtfkkdhgggocgjaaTlw
namespace Go.Proofs.Ytfkkdhgggocgjaa
open Go.ChangeShapes Go.WideShapes Go.ChangeMaps Go.RowKit

theorem us_nil (w : World) : Us w (.slice none 0 0) [] := Sl.nil 1 w
set_option maxRecDepth 100000 in
theorem open_u16s {H : Type} {enc : TypeId × Value → H} {W : World} {base : Nat} {v : Value} {d : DataW H} {ps : List MemPlace} (hval : Value.okWide Try.prog W .any base 23 v) (h : DataW.Trod enc Try.prog W 0 (fun _ => true) true 23 v d ps) :
    ∃ l : List Nat, Us W v l ∧ (∀ j, l.getD j 0 < 65536) ∧ l.length ≤ 9223372036854775807 := by
  obtain ⟨a0, len, cap, rfl⟩ := okWide_slice Try.underlying23 hval
  obtain ⟨fuel, hf⟩ := h
  rcases open_ints Try.underlying23 Try.underlying22 (by kernel_rfl) hf with ⟨hcs, _⟩ | ⟨a, len', cap', zs, hcs, _, hl, hm, hz, _, hcell, hwz⟩
  · simp [Value.cells] at hcs
    obtain ⟨rfl, rfl, rfl⟩ := hcs
    exact ⟨[], us_nil W, fun j => by show (0 : Nat) < 65536; omega, by decide⟩
  · simp [Value.cells] at hcs
    obtain ⟨rfl, rfl, rfl⟩ := hcs
    simp only [if_true] at hz
    have hlen : ((zs.take len).map Int.toNat).length = len := by simp; omega
    have hnat : ∀ z ∈ zs, ((z.toNat : Nat) : Int) = z ∧ z.toNat < 65536 := by
      intro z hzm
      obtain ⟨n, rfl, hn⟩ := nat_of_u16 z (hwz z hzm)
      exact ⟨by simp, by simpa using hn⟩
    refine ⟨(zs.take len).map Int.toNat, ⟨some a, cap, by rw [hlen], by omega, by rw [u16C_length, hlen]; omega, (fun e => by cases e), ?_⟩, ?_, by rw [hlen]; unfold maxLen at hm; omega⟩
    · intro b e j u hj
      cases e
      have hj1 : j < len := by
        have h7 := (List.getElem?_eq_some_iff.1 hj).1
        rw [u16C_length, hlen] at h7
        exact h7
      have hj2 : j < zs.length := by omega
      rw [hcell j hj2, ← hj]
      unfold u16C
      have hn := (hnat zs[j] (List.getElem_mem hj2)).1
      simp [hj1, hj2, List.getD, hn]
    · intro j
      rw [List.getD_eq_getElem?_getD]
      cases hj : ((zs.take len).map Int.toNat)[j]? with
      | none => show (0 : Nat) < 65536; omega
      | some x =>
        obtain ⟨z, hz1, rfl⟩ := List.mem_map.1 (List.mem_of_getElem? hj)
        exact (hnat z (List.mem_of_mem_take hz1)).2
theorem lowest_walk' (n : Nat) (v : Value) (l : List Nat) (w : World) (hn : n < 65536) (hv : Us w v l) (hu : ∀ j, l.getD j 0 < 65536) (hl : l.length ≤ 9223372036854775807) :
    Calls Try.prog 3 #[.int .u16 (n : Nat), v] w fun e w' => e = .returned (.bool true) ∧ Below w.heap.size w w' :=
  (lowest_walk n v l w hn hv hu hl).mono fun _ _ h => ⟨h.1, gb_below h.2⟩
end Go.Proofs.Ytfkkdhgggocgjaa

