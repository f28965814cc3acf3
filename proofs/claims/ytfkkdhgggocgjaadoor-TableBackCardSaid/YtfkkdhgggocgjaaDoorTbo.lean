/-
  What changes of a table that came in as an argument read as, over this seat's translation; no conditions beside.
-/
import Derived.Test.YtfkkdhgggocgjaaDoorTbc
import Derived.Test.YtfkkdhgggocgjaaDoorRow
import Derived.Deep.Slices
namespace Go.Proofs.YtfkkdhgggocgjaaDoor
open Go.ChangeShapes Go.WideShapes Go.RowKit

theorem u16_wf (z : Int) (h : (Lit.int .u16 z).wf = true) : ∃ a : Nat, z = a ∧ a < 65536 := by
  have h1 : (decide (0 ≤ z) && decide (z ≤ 65535)) = true := h
  simp only [Bool.and_eq_true, decide_eq_true_eq] at h1
  exact ⟨z.toNat, by omega, by omega⟩
theorem u8_is (z : Int) (h : (Lit.int .u8 z).wf = true) : ∃ a : Nat, z = a ∧ a < 256 := by
  have h1 : (decide (0 ≤ z) && decide (z ≤ 255)) = true := h
  simp only [Bool.and_eq_true, decide_eq_true_eq] at h1
  exact ⟨z.toNat, by omega, by omega⟩
set_option maxRecDepth 100000 in
theorem open_put {H : Type} {enc : TypeId × Value → H} {W : World} {base : Nat} {sp : Nat → Bool} {n : Nat} {cs : List Value} {x : DataW H × List MemPlace} (h : DataW.trod enc Tryd.prog W base sp true n 51 cs = some x) :
    ∃ f : PutT, cs = putC1 f ∧ f.Fit := by
  obtain ⟨xs, k, _, _, hl, hxl, hf⟩ := DataW.trod_struct Tryd.underlying51 h
  have c3 : Tryd.prog.cellsOf 51 = 3 := by kernel_rfl
  have d1 : Tryd.prog.cellsOf 49 = 1 := by kernel_rfl
  have d2 : Tryd.prog.cellsOf 4 = 1 := by kernel_rfl
  rw [c3] at hl
  match cs, hl with
  | [v0, v1, v2], _ =>
    have f0 := hf 0 _ rfl
    have f1 := hf 1 _ rfl
    have f2 := hf 2 _ rfl
    have l3 : xs.length = 3 := hxl
    match xs, l3 with
    | [y0, y1, y2], _ =>
      have f0' : DataW.trod enc Tryd.prog W base sp true k 49 (([v0, v1, v2].drop 0).take (Tryd.prog.cellsOf 49)) = some y0 := f0
      have f1' : DataW.trod enc Tryd.prog W base sp true k 49 (([v0, v1, v2].drop 1).take (Tryd.prog.cellsOf 49)) = some y1 := f1
      have f2' : DataW.trod enc Tryd.prog W base sp true k 4 (([v0, v1, v2].drop 2).take (Tryd.prog.cellsOf 4)) = some y2 := f2
      rw [d1] at f0'
      rw [d1] at f1'
      rw [d2] at f2'
      obtain ⟨a0, e0, _, w0⟩ := DataW.trod_int Tryd.underlying49 f0'
      obtain ⟨a1, e1, _, w1⟩ := DataW.trod_int Tryd.underlying49 f1'
      obtain ⟨b2, e2, _⟩ := DataW.trod_bool Tryd.underlying4 f2'
      obtain ⟨b0, rfl, q0⟩ := u16_wf a0 w0
      obtain ⟨b1, rfl, q1⟩ := u16_wf a1 w1
      have g0 : v0 = _ := (List.cons.inj e0).1
      subst g0
      have g1 : v1 = _ := (List.cons.inj e1).1
      subst g1
      have g2 : v2 = _ := (List.cons.inj e2).1
      subst g2
      exact ⟨⟨b0, b1, b2⟩, rfl, q0, q1⟩
set_option maxRecDepth 100000 in
/-- A slice of changes that came in. -/
theorem open_puts {H : Type} {enc : TypeId × Value → H} {W : World} {base : Nat} {v : Value} {d : DataW H} {ps : List MemPlace} (hval : Value.okWide Tryd.prog W .any base 46 v) (h : DataW.Trod enc Tryd.prog W 0 (fun _ => true) true 46 v d ps) :
    ∃ l : List PutT, Pts W v l := by
  obtain ⟨a0, len, cap, rfl⟩ := okWide_slice Tryd.underlying46 hval
  obtain ⟨fuel, hf⟩ := h
  rcases Go.Deep.open_slice Tryd.underlying46 hf with ⟨hcs, _⟩ | ⟨a, len', cap', m, n, D, Pl, hcs, _, hl, hm, hmm, _, hi⟩
  · simp [Value.cells] at hcs
    obtain ⟨rfl, rfl, rfl⟩ := hcs
    exact ⟨[], Sl.nil 3 _, fun x hx => by cases hx⟩
  · simp [Value.cells] at hcs
    obtain ⟨rfl, rfl, rfl⟩ := hcs
    simp only [if_true] at hmm
    have c3 : Tryd.prog.cellsOf 51 = 3 := by kernel_rfl
    have key : ∀ i : Nat, ∃ f : PutT, i < len → (∀ k u, (putC1 f)[k]? = some u → W.cell? (a.add (i * 3 + k)) = some u) ∧ f.Fit := by
      intro i
      by_cases h : i < len
      · obtain ⟨cs', h1, h2⟩ := hi i (by omega)
        rw [c3] at h1
        obtain ⟨_, _, hat⟩ := World.cells?_some h1
        obtain ⟨f, rfl, hfit⟩ := open_put h2
        refine ⟨f, fun _ => ⟨fun k u hu => ?_, hfit⟩⟩
        have hk : k < 3 := (List.getElem?_eq_some_iff.1 hu).1
        rw [← add_add, hat k hk, hu]
      · exact ⟨⟨0, 0, false⟩, fun h' => absurd h' h⟩
    obtain ⟨f, hf2⟩ := Classical.skolem.1 key
    have hlen : ((List.range len).map f).length = len := by simp
    refine ⟨(List.range len).map f, ⟨some a, cap, by rw [hlen], by rw [hlen]; exact hl, putsC_length _, (fun e => by cases e), ?_⟩, ?_⟩
    · intro b e j u hj
      cases e
      have hj2 := (List.getElem?_eq_some_iff.1 hj).1
      rw [putsC_length, hlen] at hj2
      have hj4 : j / 3 < len := by omega
      have hget : ((List.range len).map f)[j / 3]'(by rw [hlen]; exact hj4) = f (j / 3) := by simp
      have hat := putsC_at ((List.range len).map f) (j / 3) (by rw [hlen]; exact hj4) (j % 3) (by omega)
      rw [hget] at hat
      have hj5 : j / 3 * 3 + j % 3 = j := by omega
      rw [hj5, hj] at hat
      have := (hf2 _ hj4).1 (j % 3) u hat.symm
      rw [hj5] at this
      exact this
    · intro x hx
      obtain ⟨i, hi', rfl⟩ := List.mem_map.1 hx
      exact (hf2 i (by simpa using hi')).2
end Go.Proofs.YtfkkdhgggocgjaaDoor

