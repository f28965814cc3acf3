/-
  What a slice of things that came in reads as, over this seat's translation; no conditions.
-/
import Derived.Test.YtcoedakbagbenaaDoorRow
import Derived.Deep.Slices
namespace Go.Proofs.YtcoedakbagbenaaDoor
open Go.ChangeShapes Go.WideShapes Go.RowKit

theorem nat_of_u8 (n : Int) (h : (Lit.int .u8 n).wf = true) : ∃ a : Nat, n = a ∧ a < 256 := by
  have h1 : (decide (0 ≤ n) && decide (n ≤ 255)) = true := h
  simp only [Bool.and_eq_true, decide_eq_true_eq] at h1
  exact ⟨n.toNat, by omega, by omega⟩
theorem nat_of_u16 (n : Int) (h : (Lit.int .u16 n).wf = true) : ∃ a : Nat, n = a ∧ a < 65536 := by
  have h1 : (decide (0 ≤ n) && decide (n ≤ 65535)) = true := h
  simp only [Bool.and_eq_true, decide_eq_true_eq] at h1
  exact ⟨n.toNat, by omega, by omega⟩

set_option maxRecDepth 100000 in
/-- One thing's three cells. -/
theorem open_thing {H : Type} {enc : TypeId × Value → H} {W : World} {base : Nat} {sp : Nat → Bool} {n : Nat} {cs : List Value} {x : DataW H × List MemPlace} (h : DataW.trod enc Tryd.prog W base sp true n 59 cs = some x) :
    ∃ (z m : Nat) (s : ByteArray), cs = [.int .u8 z, .int .u64 m, .string s] ∧ z < 256 ∧ m < 18446744073709551616 ∧ s.size ≤ 9223372036854775807 := by
  obtain ⟨xs, k, _, _, hl, hxl, hf⟩ := DataW.trod_struct Tryd.underlying59 h
  have c3 : Tryd.prog.cellsOf 59 = 3 := by kernel_rfl
  have d5 : Tryd.prog.cellsOf 5 = 1 := by kernel_rfl
  have d29 : Tryd.prog.cellsOf 29 = 1 := by kernel_rfl
  have d9 : Tryd.prog.cellsOf 9 = 1 := by kernel_rfl
  rw [c3] at hl
  match cs, hl with
  | [v0, v1, v2], _ =>
    have f0 := hf 0 _ rfl
    have f1 := hf 1 _ rfl
    have f2 := hf 2 _ rfl
    have l3 : xs.length = 3 := hxl
    match xs, l3 with
    | [y0, y1, y2], _ =>
      have f0' : DataW.trod enc Tryd.prog W base sp true k 5 (([v0, v1, v2].drop 0).take (Tryd.prog.cellsOf 5)) = some y0 := f0
      have f1' : DataW.trod enc Tryd.prog W base sp true k 29 (([v0, v1, v2].drop 1).take (Tryd.prog.cellsOf 29)) = some y1 := f1
      have f2' : DataW.trod enc Tryd.prog W base sp true k 9 (([v0, v1, v2].drop 2).take (Tryd.prog.cellsOf 9)) = some y2 := f2
      rw [d5] at f0'
      rw [d29] at f1'
      rw [d9] at f2'
      obtain ⟨z, e0, _, w0⟩ := DataW.trod_int Tryd.underlying5 f0'
      obtain ⟨m, e1, _, w1⟩ := DataW.trod_int Tryd.underlying29 f1'
      obtain ⟨s, e2, _, w2⟩ := DataW.trod_string Tryd.underlying9 f2'
      obtain ⟨z', rfl, hz⟩ := nat_of_u8 z w0
      obtain ⟨m', rfl, hm⟩ := nat_of_u64 m w1
      have g0 : v0 = _ := (List.cons.inj e0).1
      have g1 : v1 = _ := (List.cons.inj e1).1
      have g2 : v2 = _ := (List.cons.inj e2).1
      subst g0; subst g1; subst g2
      unfold maxLen at w2
      exact ⟨z', m', s, rfl, hz, hm, by omega⟩

set_option maxRecDepth 100000 in
/-- A slice of things that came in. -/
theorem open_things {H : Type} {enc : TypeId × Value → H} {W : World} {base : Nat} {v : Value} {d : DataW H} {ps : List MemPlace} (hval : Value.okWide Tryd.prog W .any base 55 v) (h : DataW.Trod enc Tryd.prog W 0 (fun _ => true) true 55 v d ps) :
    v = .slice none 0 0 ∨ ∃ (a : Addr) (len cap : Nat) (wd nn : Nat → Nat) (ss : Nat → ByteArray), v = .slice (some a) len cap ∧ len ≤ cap ∧ cap ≤ 9223372036854775807 ∧
      (∀ i, i < len → W.cell? (a.add (i * 3)) = some (.int .u8 (wd i)) ∧ W.cell? ⟨(a.add (i * 3)).block, (a.add (i * 3)).off + 1, none⟩ = some (.int .u64 (nn i)) ∧ W.cell? ⟨(a.add (i * 3)).block, (a.add (i * 3)).off + 2, none⟩ = some (.string (ss i))) ∧
      (∀ i, i < len → wd i < 256 ∧ nn i < 18446744073709551616 ∧ (ss i).size ≤ 9223372036854775807) := by
  obtain ⟨a0, len, cap, rfl⟩ := okWide_slice Tryd.underlying55 hval
  obtain ⟨fuel, hf⟩ := h
  rcases Go.Deep.open_slice Tryd.underlying55 hf with ⟨hcs, _⟩ | ⟨a, len', cap', m, n, D, Pl, hcs, _, hl, hm, hmm, _, hi⟩
  · simp [Value.cells] at hcs
    obtain ⟨rfl, rfl, rfl⟩ := hcs
    exact Or.inl rfl
  · simp [Value.cells] at hcs
    obtain ⟨rfl, rfl, rfl⟩ := hcs
    simp only [if_true] at hmm
    have c3 : Tryd.prog.cellsOf 59 = 3 := by kernel_rfl
    have key : ∀ i : Nat, ∃ t : Nat × Nat × ByteArray, i < len → (W.cell? (a.add (i * 3)) = some (.int .u8 t.1) ∧ W.cell? ⟨(a.add (i * 3)).block, (a.add (i * 3)).off + 1, none⟩ = some (.int .u64 t.2.1) ∧ W.cell? ⟨(a.add (i * 3)).block, (a.add (i * 3)).off + 2, none⟩ = some (.string t.2.2)) ∧ t.1 < 256 ∧ t.2.1 < 18446744073709551616 ∧ t.2.2.size ≤ 9223372036854775807 := by
      intro i
      by_cases h : i < len
      · obtain ⟨cs', h1, h2⟩ := hi i (by omega)
        rw [c3] at h1
        obtain ⟨_, _, hat⟩ := World.cells?_some h1
        obtain ⟨z, k, s, rfl, hz, hk, hs⟩ := open_thing h2
        refine ⟨(z, k, s), fun _ => ⟨⟨?_, ?_, ?_⟩, hz, hk, hs⟩⟩
        · have h3 := hat 0 (by omega)
          rw [Addr.add_zero'] at h3
          exact h3
        · have h3 := hat 1 (by omega)
          rw [Addr.add_succ'] at h3
          exact h3
        · have h3 := hat 2 (by omega)
          rw [Addr.add_succ'] at h3
          exact h3
      · exact ⟨(0, 0, ⟨#[]⟩), fun h' => absurd h' h⟩
    obtain ⟨f, hf2⟩ := Classical.skolem.1 key
    exact Or.inr ⟨a, len, cap, fun i => (f i).1, fun i => (f i).2.1, fun i => (f i).2.2, rfl, hl, by unfold maxLen at hm; omega, fun i h => (hf2 i h).1, fun i h => (hf2 i h).2⟩
end Go.Proofs.YtcoedakbagbenaaDoor
