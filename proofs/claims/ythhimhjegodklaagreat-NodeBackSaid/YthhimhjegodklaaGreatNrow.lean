/-
  What a made node, and bytes, that came in as arguments read as, over this seat's translation; no conditions beside.
-/
import Derived.Test.YthhimhjegodklaaGreatNze
import Derived.Test.YthhimhjegodklaaGreatPRow
import Derived.Deep.Slices
import Derived.Lib.SmallJoins
namespace Go.Proofs.YthhimhjegodklaaGreat.N11
set_option linter.unusedSimpArgs false
set_option linter.unusedVariables false
open Go.ChangeShapes Go.WideShapes Go.RowKit
set_option maxRecDepth 100000 in
theorem open_bs {H : Type} {enc : TypeId × Value → H} {W : World} {base n : Nat} {sp : Nat → Bool} {v : Value} {x : DataW H × List MemPlace} (h : DataW.trod enc Tryz.prog W base sp true n 28 [v] = some x) :
    ∃ l : List UInt8, Bs W v l := by
  rcases Go.Deep.open_slice1 Tryz.underlying28 (by kernel_rfl) h with ⟨hcs, _⟩ | ⟨a, len, cap, m, k, V, D, Pl, hcs, _, hl, hm, hmm, _, hi⟩
  · obtain rfl : v = .slice none 0 0 := (List.cons.inj hcs).1
    exact ⟨[], Bs.nil _⟩
  · obtain rfl : v = .slice (some a) len cap := (List.cons.inj hcs).1
    have hlm : len ≤ m := by rw [hmm]; split <;> omega
    have key : ∀ i : Nat, ∃ b : UInt8, i < len → W.cell? (a.add i) = some (.int .u8 (b.toNat : Nat)) := by
      intro i
      by_cases h : i < len
      · obtain ⟨h1, h2⟩ := hi i (by omega)
        obtain ⟨z, e, _, hz⟩ := DataW.trod_int Tryz.underlying5 h2
        have e2 : V i = .int .u8 z := (List.cons.inj e).1
        obtain ⟨b, rfl⟩ := byte_of_u8 z hz
        exact ⟨b, fun _ => by rw [h1, e2]⟩
      · exact ⟨0, fun h' => absurd h' h⟩
    obtain ⟨f, hf⟩ := Classical.skolem.1 key
    have hlen : ((List.range len).map f).length = len := by simp
    refine ⟨(List.range len).map f, ⟨some a, cap, by rw [hlen], by omega, (fun e => by cases e), ?_⟩⟩
    intro b e j u hj
    cases e
    have hj1 : j < len := by
      have := (List.getElem?_eq_some_iff.1 hj).1
      simpa [bcells] using this
    rw [hf j hj1]
    rw [← hj]
    simp [bcells, hj1]
set_option maxRecDepth 100000 in
theorem open_made {H : Type} {enc : TypeId × Value → H} {W : World} {base : Nat} {v : Value} {d : DataW H} {ps : List MemPlace} (hval : Value.okWide Tryz.prog W .any base 30 v) (h : DataW.Trod enc Tryz.prog W 0 (fun _ => true) true 30 v d ps) :
    ∃ (s : ByteArray) (u : Value) (L : List UInt8), v = .agg #[.string s, u] ∧ Bs W u L := by
  obtain ⟨v0, v1, y0, y1, n, rfl, _, _, h0, h1⟩ := Go.Joins.open_agg2 Tryz.underlying30 (by kernel_rfl) (by kernel_rfl) hval h
  obtain ⟨s, e1, _, _⟩ := DataW.trod_string Tryz.underlying9 h0
  obtain ⟨L, hL⟩ := open_bs h1
  have g1 : v0 = _ := (List.cons.inj e1).1
  subst g1
  exact ⟨s, v1, L, rfl, hL⟩
end Go.Proofs.YthhimhjegodklaaGreat.N11

