/-
  What acts that came in as an argument read as, over this seat's translation; no conditions beside.
-/
import Derived.Test.YtfkkdhgggocgjaaDoorTs
import Derived.Test.YtfkkdhgggocgjaaDoorRow
import Derived.Deep.Slices
namespace Go.Proofs.YtfkkdhgggocgjaaDoor
open Go.ChangeShapes Go.WideShapes Go.RowKit

theorem u8_wf (z : Int) (h : (Lit.int .u8 z).wf = true) : ∃ a : Nat, z = a ∧ a < 256 := by
  have h1 : (decide (0 ≤ z) && decide (z ≤ 255)) = true := h
  simp only [Bool.and_eq_true, decide_eq_true_eq] at h1
  exact ⟨z.toNat, by omega, by omega⟩
theorem i16_wf (z : Int) (h : (Lit.int .i16 z).wf = true) : -32768 ≤ z ∧ z ≤ 32767 := by
  have h1 : (decide (-32768 ≤ z) && decide (z ≤ 32767)) = true := h
  simpa using h1
set_option maxRecDepth 100000 in
theorem open_act {H : Type} {enc : TypeId × Value → H} {W : World} {base : Nat} {sp : Nat → Bool} {n : Nat} {cs : List Value} {x : DataW H × List MemPlace} (h : DataW.trod enc Tryd.prog W base sp true n 29 cs = some x) :
    ∃ f : AcT, cs = acC1 f ∧ f.Fit := by
  obtain ⟨xs, k, _, _, hl, hxl, hf⟩ := DataW.trod_struct Tryd.underlying29 h
  have c3 : Tryd.prog.cellsOf 29 = 5 := by kernel_rfl
  have d1 : Tryd.prog.cellsOf 5 = 1 := by kernel_rfl
  have d2 : Tryd.prog.cellsOf 27 = 1 := by kernel_rfl
  rw [c3] at hl
  match cs, hl with
  | [v0, v1, v2, v3, v4], _ =>
    have f0 := hf 0 _ rfl
    have f1 := hf 1 _ rfl
    have f2 := hf 2 _ rfl
    have f3 := hf 3 _ rfl
    have f4 := hf 4 _ rfl
    have l3 : xs.length = 5 := hxl
    match xs, l3 with
    | [y0, y1, y2, y3, y4], _ =>
      have f0' : DataW.trod enc Tryd.prog W base sp true k 5 (([v0, v1, v2, v3, v4].drop 0).take (Tryd.prog.cellsOf 5)) = some y0 := f0
      have f1' : DataW.trod enc Tryd.prog W base sp true k 27 (([v0, v1, v2, v3, v4].drop 1).take (Tryd.prog.cellsOf 27)) = some y1 := f1
      have f2' : DataW.trod enc Tryd.prog W base sp true k 27 (([v0, v1, v2, v3, v4].drop 2).take (Tryd.prog.cellsOf 27)) = some y2 := f2
      have f3' : DataW.trod enc Tryd.prog W base sp true k 5 (([v0, v1, v2, v3, v4].drop 3).take (Tryd.prog.cellsOf 5)) = some y3 := f3
      have f4' : DataW.trod enc Tryd.prog W base sp true k 5 (([v0, v1, v2, v3, v4].drop 4).take (Tryd.prog.cellsOf 5)) = some y4 := f4
      rw [d1] at f0'
      rw [d2] at f1'
      rw [d2] at f2'
      rw [d1] at f3'
      rw [d1] at f4'
      obtain ⟨a0, e0, _, w0⟩ := DataW.trod_int Tryd.underlying5 f0'
      obtain ⟨a1, e1, _, w1⟩ := DataW.trod_int Tryd.underlying27 f1'
      obtain ⟨a2, e2, _, w2⟩ := DataW.trod_int Tryd.underlying27 f2'
      obtain ⟨a3, e3, _, w3⟩ := DataW.trod_int Tryd.underlying5 f3'
      obtain ⟨a4, e4, _, w4⟩ := DataW.trod_int Tryd.underlying5 f4'
      obtain ⟨b0, rfl, q0⟩ := u8_wf a0 w0
      obtain ⟨b3, rfl, q3⟩ := u8_wf a3 w3
      have q4 := byte_wf a4 w4
      have q1 := i16_wf _ w1
      have q2 := i16_wf _ w2
      have g0 : v0 = _ := (List.cons.inj e0).1
      subst g0
      have g1 : v1 = _ := (List.cons.inj e1).1
      subst g1
      have g2 : v2 = _ := (List.cons.inj e2).1
      subst g2
      have g3 : v3 = _ := (List.cons.inj e3).1
      subst g3
      have g4 : v4 = _ := (List.cons.inj e4).1
      subst g4
      exact ⟨⟨b0, a1, a2, b3, UInt8.ofNat a4.toNat⟩, by show _ = [_, _, _, _, _]; rw [q4], q0, q1, q2, q3⟩
set_option maxRecDepth 100000 in
/-- A slice of acts that came in. -/
theorem open_acts {H : Type} {enc : TypeId × Value → H} {W : World} {base : Nat} {v : Value} {d : DataW H} {ps : List MemPlace} (hval : Value.okWide Tryd.prog W .any base 22 v) (h : DataW.Trod enc Tryd.prog W 0 (fun _ => true) true 22 v d ps) :
    ∃ l : List AcT, Acs W v l := by
  obtain ⟨a0, len, cap, rfl⟩ := okWide_slice Tryd.underlying22 hval
  obtain ⟨fuel, hf⟩ := h
  rcases Go.Deep.open_slice Tryd.underlying22 hf with ⟨hcs, _⟩ | ⟨a, len', cap', m, n, D, Pl, hcs, _, hl, hm, hmm, _, hi⟩
  · simp [Value.cells] at hcs
    obtain ⟨rfl, rfl, rfl⟩ := hcs
    exact ⟨[], Sl.nil 5 _, fun x hx => by cases hx⟩
  · simp [Value.cells] at hcs
    obtain ⟨rfl, rfl, rfl⟩ := hcs
    simp only [if_true] at hmm
    have c3 : Tryd.prog.cellsOf 29 = 5 := by kernel_rfl
    have key : ∀ i : Nat, ∃ f : AcT, i < len → (∀ k u, (acC1 f)[k]? = some u → W.cell? (a.add (i * 5 + k)) = some u) ∧ f.Fit := by
      intro i
      by_cases h : i < len
      · obtain ⟨cs', h1, h2⟩ := hi i (by omega)
        rw [c3] at h1
        obtain ⟨_, _, hat⟩ := World.cells?_some h1
        obtain ⟨f, rfl, hfit⟩ := open_act h2
        refine ⟨f, fun _ => ⟨fun k u hu => ?_, hfit⟩⟩
        have hk : k < 5 := (List.getElem?_eq_some_iff.1 hu).1
        rw [← add_add, hat k hk, hu]
      · exact ⟨⟨0, 0, 0, 0, 0⟩, fun h' => absurd h' h⟩
    obtain ⟨f, hf2⟩ := Classical.skolem.1 key
    have hlen : ((List.range len).map f).length = len := by simp
    refine ⟨(List.range len).map f, ⟨some a, cap, by rw [hlen], by rw [hlen]; exact hl, acsC_length _, (fun e => by cases e), ?_⟩, ?_⟩
    · intro b e j u hj
      cases e
      have hj2 := (List.getElem?_eq_some_iff.1 hj).1
      rw [acsC_length, hlen] at hj2
      have hj4 : j / 5 < len := by omega
      have hget : ((List.range len).map f)[j / 5]'(by rw [hlen]; exact hj4) = f (j / 5) := by simp
      have hat := acsC_at ((List.range len).map f) (j / 5) (by rw [hlen]; exact hj4) (j % 5) (by omega)
      rw [hget] at hat
      have hj5 : j / 5 * 5 + j % 5 = j := by omega
      rw [hj5, hj] at hat
      have := (hf2 _ hj4).1 (j % 5) u hat.symm
      rw [hj5] at this
      exact this
    · intro x hx
      obtain ⟨i, hi', rfl⟩ := List.mem_map.1 hx
      exact (hf2 i (by simpa using hi')).2
end Go.Proofs.YtfkkdhgggocgjaaDoor

