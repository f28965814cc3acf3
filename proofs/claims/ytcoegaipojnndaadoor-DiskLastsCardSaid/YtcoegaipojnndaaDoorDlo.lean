/-
  What writes that came in as an argument read as, over this seat's translation; no conditions beside.
-/
import Derived.Test.YtcoegaipojnndaaDoorDl4
import Derived.Test.YtcoegaipojnndaaDoorFRow
import Derived.Deep.Slices
namespace Go.Proofs.YtcoegaipojnndaaDoor
open Go.ChangeShapes Go.WideShapes Go.RowKit

set_option maxRecDepth 100000 in
theorem open_put {H : Type} {enc : TypeId × Value → H} {W : World} {base : Nat} {sp : Nat → Bool} {n : Nat} {cs : List Value} {x : DataW H × List MemPlace} (h : DataW.trod enc Tryd.prog W base sp true n 62 cs = some x) :
    ∃ f : Pu, cs = puC1 f := by
  obtain ⟨xs, k, _, _, hl, hxl, hf⟩ := DataW.trod_struct Tryd.underlying62 h
  have c3 : Tryd.prog.cellsOf 62 = 3 := by kernel_rfl
  have d1 : Tryd.prog.cellsOf 5 = 1 := by kernel_rfl
  have d2 : Tryd.prog.cellsOf 4 = 1 := by kernel_rfl
  rw [c3] at hl
  match cs, hl with
  | [v0, v1, v2], _ =>
    have f0 := hf 0 _ rfl
    have f1 := hf 1 _ rfl
    have f2 := hf 2 _ rfl
    have l3 : xs.length = 3 := hxl
    match xs, l3 with
    | [y0, y1, y2], _ =>
      have f0' : DataW.trod enc Tryd.prog W base sp true k 5 (([v0, v1, v2].drop 0).take (Tryd.prog.cellsOf 5)) = some y0 := f0
      have f1' : DataW.trod enc Tryd.prog W base sp true k 5 (([v0, v1, v2].drop 1).take (Tryd.prog.cellsOf 5)) = some y1 := f1
      have f2' : DataW.trod enc Tryd.prog W base sp true k 4 (([v0, v1, v2].drop 2).take (Tryd.prog.cellsOf 4)) = some y2 := f2
      rw [d1] at f0' f1'
      rw [d2] at f2'
      obtain ⟨a, e0, _, w0⟩ := DataW.trod_int Tryd.underlying5 f0'
      obtain ⟨b, e1, _, w1⟩ := DataW.trod_int Tryd.underlying5 f1'
      obtain ⟨c, e2, _⟩ := DataW.trod_bool Tryd.underlying4 f2'
      obtain ⟨a', rfl⟩ := nat_of_u8 a w0
      obtain ⟨b', rfl⟩ := nat_of_u8 b w1
      have g0 : v0 = _ := (List.cons.inj e0).1
      have g1 : v1 = _ := (List.cons.inj e1).1
      have g2 : v2 = _ := (List.cons.inj e2).1
      subst g0; subst g1; subst g2
      exact ⟨(a', b', c), rfl⟩
set_option maxRecDepth 100000 in
/-- A slice of writes that came in. -/
theorem open_puts {H : Type} {enc : TypeId × Value → H} {W : World} {base : Nat} {v : Value} {d : DataW H} {ps : List MemPlace} (hval : Value.okWide Tryd.prog W .any base 59 v) (h : DataW.Trod enc Tryd.prog W 0 (fun _ => true) true 59 v d ps) :
    ∃ l : List Pu, Pus W v l := by
  obtain ⟨a0, len, cap, rfl⟩ := okWide_slice Tryd.underlying59 hval
  obtain ⟨fuel, hf⟩ := h
  rcases Go.Deep.open_slice Tryd.underlying59 hf with ⟨hcs, _⟩ | ⟨a, len', cap', m, n, D, Pl, hcs, _, hl, hm, hmm, _, hi⟩
  · simp [Value.cells] at hcs
    obtain ⟨rfl, rfl, rfl⟩ := hcs
    exact ⟨[], Sl.nil 3 _⟩
  · simp [Value.cells] at hcs
    obtain ⟨rfl, rfl, rfl⟩ := hcs
    simp only [if_true] at hmm
    have c3 : Tryd.prog.cellsOf 62 = 3 := by kernel_rfl
    have key : ∀ i : Nat, ∃ f : Pu, i < len → ∀ k u, (puC1 f)[k]? = some u → W.cell? (a.add (i * 3 + k)) = some u := by
      intro i
      by_cases h : i < len
      · obtain ⟨cs', h1, h2⟩ := hi i (by omega)
        rw [c3] at h1
        obtain ⟨_, _, hat⟩ := World.cells?_some h1
        obtain ⟨f, rfl⟩ := open_put h2
        refine ⟨f, fun _ k u hu => ?_⟩
        have hk : k < 3 := (List.getElem?_eq_some_iff.1 hu).1
        rw [← add_add, hat k hk, hu]
      · exact ⟨(0, 0, false), fun h' => absurd h' h⟩
    obtain ⟨f, hf2⟩ := Classical.skolem.1 key
    have hlen : ((List.range len).map f).length = len := by simp
    refine ⟨(List.range len).map f, ⟨some a, cap, by rw [hlen], by rw [hlen]; exact hl, puC_length _, (fun e => by cases e), ?_⟩⟩
    intro b e j u hj
    cases e
    have hj2 := (List.getElem?_eq_some_iff.1 hj).1
    rw [puC_length, hlen] at hj2
    have hj4 : j / 3 < len := by omega
    have hget : ((List.range len).map f)[j / 3]? = some (f (j / 3)) := by simp [hj4]
    have hj3 : j = j / 3 * 3 + j % 3 := by omega
    rw [hj3] at hj ⊢
    rw [puC_at _ _ _ hget (j % 3) (by omega)] at hj
    exact hf2 _ hj4 (j % 3) u hj
end Go.Proofs.YtcoegaipojnndaaDoor
