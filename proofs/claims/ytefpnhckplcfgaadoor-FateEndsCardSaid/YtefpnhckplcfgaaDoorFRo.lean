/-
  What a fate, and a list of drawn writes, that came in as arguments read as, over this seat's translation; no conditions beside.
-/
import Derived.Test.YtefpnhckplcfgaaDoorFRow
import Derived.Deep.Slices
import Derived.Lib.SmallJoins
namespace Go.Proofs.YtefpnhckplcfgaaDoor
open Go.ChangeShapes Go.WideShapes Go.RowKit

set_option maxRecDepth 100000 in
theorem open_bools {H : Type} {enc : TypeId × Value → H} {W : World} {n : Nat} {v : Value} {x : DataW H × List MemPlace} (h : DataW.trod enc Tryd.prog W 0 (fun _ => true) true n 25 [v] = some x) :
    ∃ l : List Bool, Bls W v l ∧ l.length ≤ 9223372036854775807 := by
  rcases Go.Deep.open_slice1 Tryd.underlying25 (by kernel_rfl) h with ⟨hcs, _⟩ | ⟨a, len, cap, m, k, V, D, Pl, hcs, _, hl, hm, hmm, _, hi⟩
  · obtain rfl : v = .slice none 0 0 := (List.cons.inj hcs).1
    exact ⟨[], Sl.nil 1 _, by decide⟩
  · obtain rfl : v = .slice (some a) len cap := (List.cons.inj hcs).1
    simp only [if_true] at hmm
    have key : ∀ i : Nat, ∃ b : Bool, i < len → W.cell? (a.add i) = some (.bool b) := by
      intro i
      by_cases h : i < len
      · obtain ⟨h1, h2⟩ := hi i (by omega)
        obtain ⟨b, e, _⟩ := DataW.trod_bool Tryd.underlying4 h2
        have e2 : V i = .bool b := (List.cons.inj e).1
        exact ⟨b, fun _ => by rw [h1, e2]⟩
      · exact ⟨false, fun h' => absurd h' h⟩
    obtain ⟨f, hf⟩ := Classical.skolem.1 key
    have hlen : ((List.range len).map f).length = len := by simp
    refine ⟨(List.range len).map f, ⟨some a, cap, by rw [hlen], by omega, by simp [bools], (fun e => by cases e), ?_⟩, by rw [hlen]; unfold maxLen at hm; omega⟩
    intro b e j u hj
    cases e
    have hj1 : j < len := by
      have := (List.getElem?_eq_some_iff.1 hj).1
      simpa [bools] using this
    rw [hf j hj1]
    rw [← hj]
    simp [bools, hj1]
set_option maxRecDepth 100000 in
theorem open_fate {H : Type} {enc : TypeId × Value → H} {W : World} {base : Nat} {v : Value} {d : DataW H} {ps : List MemPlace} (hval : Value.okWide Tryd.prog W .any base 27 v) (h : DataW.Trod enc Tryd.prog W 0 (fun _ => true) true 27 v d ps) :
    ∃ (cm : Value) (bs : List Bool) (t a : Int), v = .agg #[cm, .int .i64 t, .int .i64 a] ∧ Bls W cm bs ∧ bs.length ≤ 9223372036854775807 := by
  obtain ⟨v0, v1, v2, y0, y1, y2, n, rfl, _, _, h0, h1, h2⟩ := Go.Joins.open_agg3 Tryd.underlying27 (by kernel_rfl) (by kernel_rfl) hval h
  obtain ⟨a, e1, _, _⟩ := DataW.trod_int Tryd.underlying3 h1
  obtain ⟨b, e2, _, _⟩ := DataW.trod_int Tryd.underlying3 h2
  obtain ⟨l, hl, hll⟩ := open_bools h0
  have g1 : v1 = _ := (List.cons.inj e1).1
  have g2 : v2 = _ := (List.cons.inj e2).1
  subst g1; subst g2
  exact ⟨v0, l, a, b, rfl, hl, hll⟩
set_option maxRecDepth 100000 in
theorem open_lay {H : Type} {enc : TypeId × Value → H} {W : World} {base : Nat} {sp : Nat → Bool} {n : Nat} {cs : List Value} {x : DataW H × List MemPlace} (h : DataW.trod enc Tryd.prog W base sp true n 61 cs = some x) :
    ∃ f : Lay, cs = [.int .u8 (f.1.toNat : Nat), .int .u8 (f.2.1.toNat : Nat), .int .u8 (f.2.2.toNat : Nat)] := by
  obtain ⟨xs, k, _, _, hl, hxl, hf⟩ := DataW.trod_struct Tryd.underlying61 h
  have c3 : Tryd.prog.cellsOf 61 = 3 := by kernel_rfl
  have d1 : Tryd.prog.cellsOf 5 = 1 := by kernel_rfl
  rw [c3] at hl
  match cs, hl with
  | [v0, v1, v2], _ =>
    have f0 := hf 0 _ rfl
    have f1 := hf 1 _ rfl
    have f2 := hf 2 _ rfl
    have l3 : xs.length = 3 := hxl
    match xs, l3 with
    | [y0, y1, y2], _ =>
      have f0' : DataW.trod enc Tryd.prog W base sp true k 5 (([v0, v1, v2].drop 0).take (Tryd.prog.cellsOf 5)) = some y0 := f0
      have f1' : DataW.trod enc Tryd.prog W base sp true k 5 (([v0, v1, v2].drop 1).take (Tryd.prog.cellsOf 5)) = some y1 := f1
      have f2' : DataW.trod enc Tryd.prog W base sp true k 5 (([v0, v1, v2].drop 2).take (Tryd.prog.cellsOf 5)) = some y2 := f2
      rw [d1] at f0' f1' f2'
      obtain ⟨a, e0, _, w0⟩ := DataW.trod_int Tryd.underlying5 f0'
      obtain ⟨b, e1, _, w1⟩ := DataW.trod_int Tryd.underlying5 f1'
      obtain ⟨c, e2, _, w2⟩ := DataW.trod_int Tryd.underlying5 f2'
      obtain ⟨a', rfl⟩ := nat_of_u8 a w0
      obtain ⟨b', rfl⟩ := nat_of_u8 b w1
      obtain ⟨c', rfl⟩ := nat_of_u8 c w2
      have g0 : v0 = _ := (List.cons.inj e0).1
      have g1 : v1 = _ := (List.cons.inj e1).1
      have g2 : v2 = _ := (List.cons.inj e2).1
      subst g0; subst g1; subst g2
      exact ⟨(a', b', c'), rfl⟩
set_option maxRecDepth 100000 in
/-- A slice of drawn writes that came in. -/
theorem open_lays {H : Type} {enc : TypeId × Value → H} {W : World} {base : Nat} {v : Value} {d : DataW H} {ps : List MemPlace} (hval : Value.okWide Tryd.prog W .any base 36 v) (h : DataW.Trod enc Tryd.prog W 0 (fun _ => true) true 36 v d ps) :
    ∃ l : List Lay, Lys W v l := by
  obtain ⟨a0, len, cap, rfl⟩ := okWide_slice Tryd.underlying36 hval
  obtain ⟨fuel, hf⟩ := h
  rcases Go.Deep.open_slice Tryd.underlying36 hf with ⟨hcs, _⟩ | ⟨a, len', cap', m, n, D, Pl, hcs, _, hl, hm, hmm, _, hi⟩
  · simp [Value.cells] at hcs
    obtain ⟨rfl, rfl, rfl⟩ := hcs
    exact ⟨[], Sl.nil 3 _⟩
  · simp [Value.cells] at hcs
    obtain ⟨rfl, rfl, rfl⟩ := hcs
    simp only [if_true] at hmm
    have c3 : Tryd.prog.cellsOf 61 = 3 := by kernel_rfl
    have key : ∀ i : Nat, ∃ f : Lay, i < len → ∀ k u, [Value.int .u8 (f.1.toNat : Nat), .int .u8 (f.2.1.toNat : Nat), .int .u8 (f.2.2.toNat : Nat)][k]? = some u → W.cell? (a.add (i * 3 + k)) = some u := by
      intro i
      by_cases h : i < len
      · obtain ⟨cs', h1, h2⟩ := hi i (by omega)
        rw [c3] at h1
        obtain ⟨_, _, hat⟩ := World.cells?_some h1
        obtain ⟨f, rfl⟩ := open_lay h2
        refine ⟨f, fun _ k u hu => ?_⟩
        have hk : k < 3 := (List.getElem?_eq_some_iff.1 hu).1
        rw [← add_add, hat k hk, hu]
      · exact ⟨(0, 0, 0), fun h' => absurd h' h⟩
    obtain ⟨f, hf2⟩ := Classical.skolem.1 key
    have hlen : ((List.range len).map f).length = len := by simp
    refine ⟨(List.range len).map f, ⟨some a, cap, by rw [hlen], by rw [hlen]; exact hl, layC_length _, (fun e => by cases e), ?_⟩⟩
    intro b e j u hj
    cases e
    have hj2 := (List.getElem?_eq_some_iff.1 hj).1
    rw [layC_length, hlen] at hj2
    have hj4 : j / 3 < len := by omega
    have hget : ((List.range len).map f)[j / 3]? = some (f (j / 3)) := by simp [hj4]
    obtain ⟨q0, q1, q2⟩ := layC_at _ _ _ hget
    have hj3 : j = j / 3 * 3 + j % 3 := by omega
    have hr : j % 3 = 0 ∨ j % 3 = 1 ∨ j % 3 = 2 := by omega
    rcases hr with hr | hr | hr
    · rw [hj3, hr, Nat.add_zero] at hj ⊢
      rw [q0] at hj
      exact hf2 _ hj4 0 u hj
    · rw [hj3, hr] at hj ⊢
      rw [q1] at hj
      exact hf2 _ hj4 1 u hj
    · rw [hj3, hr] at hj ⊢
      rw [q2] at hj
      exact hf2 _ hj4 2 u hj
end Go.Proofs.YtefpnhckplcfgaaDoor
