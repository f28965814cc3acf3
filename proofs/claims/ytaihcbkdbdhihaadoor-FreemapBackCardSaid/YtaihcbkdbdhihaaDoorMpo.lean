/-
  What acts, and numbers of sixteen bits, that came in as an argument read as, over this seat's translation; no conditions beside.
-/
import Derived.Test.YtaihcbkdbdhihaaDoorMs
import Derived.Test.YtaihcbkdbdhihaaDoorMRow
import Derived.Deep.Slices
namespace Go.Proofs.YtaihcbkdbdhihaaDoor
open Go.ChangeShapes Go.WideShapes Go.RowKit

set_option maxRecDepth 100000 in
theorem open_act {H : Type} {enc : TypeId × Value → H} {W : World} {base : Nat} {sp : Nat → Bool} {n : Nat} {cs : List Value} {x : DataW H × List MemPlace} (h : DataW.trod enc Tryd.prog W base sp true n 30 cs = some x) :
    ∃ f : Ac, cs = acC1 f ∧ (f.what < 256 ∧ -32768 ≤ f.i ∧ f.i ≤ 32767) := by
  obtain ⟨xs, k, _, _, hl, hxl, hf⟩ := DataW.trod_struct Tryd.underlying30 h
  have c3 : Tryd.prog.cellsOf 30 = 2 := by kernel_rfl
  have d1 : Tryd.prog.cellsOf 5 = 1 := by kernel_rfl
  have d2 : Tryd.prog.cellsOf 28 = 1 := by kernel_rfl
  rw [c3] at hl
  match cs, hl with
  | [v0, v1], _ =>
    have f0 := hf 0 _ rfl
    have f1 := hf 1 _ rfl
    have l3 : xs.length = 2 := hxl
    match xs, l3 with
    | [y0, y1], _ =>
      have f0' : DataW.trod enc Tryd.prog W base sp true k 5 (([v0, v1].drop 0).take (Tryd.prog.cellsOf 5)) = some y0 := f0
      have f1' : DataW.trod enc Tryd.prog W base sp true k 28 (([v0, v1].drop 1).take (Tryd.prog.cellsOf 28)) = some y1 := f1
      rw [d1] at f0'
      rw [d2] at f1'
      obtain ⟨a, e0, _, w0⟩ := DataW.trod_int Tryd.underlying5 f0'
      obtain ⟨b, e1, _, w1⟩ := DataW.trod_int Tryd.underlying28 f1'
      obtain ⟨a', rfl, ha⟩ := u8_wf a w0
      have g0 : v0 = _ := (List.cons.inj e0).1
      have g1 : v1 = _ := (List.cons.inj e1).1
      subst g0; subst g1
      have h1 := i16_wf _ w1
      exact ⟨⟨a', b⟩, rfl, ha, h1.1, h1.2⟩
set_option maxRecDepth 100000 in
/-- A slice of acts that came in. -/
theorem open_acts {H : Type} {enc : TypeId × Value → H} {W : World} {base : Nat} {v : Value} {d : DataW H} {ps : List MemPlace} (hval : Value.okWide Tryd.prog W .any base 22 v) (h : DataW.Trod enc Tryd.prog W 0 (fun _ => true) true 22 v d ps) :
    ∃ l : List Ac, Acs W v l := by
  obtain ⟨a0, len, cap, rfl⟩ := okWide_slice Tryd.underlying22 hval
  obtain ⟨fuel, hf⟩ := h
  rcases Go.Deep.open_slice Tryd.underlying22 hf with ⟨hcs, _⟩ | ⟨a, len', cap', m, n, D, Pl, hcs, _, hl, hm, hmm, _, hi⟩
  · simp [Value.cells] at hcs
    obtain ⟨rfl, rfl, rfl⟩ := hcs
    exact ⟨[], Sl.nil 2 _, fun x hx => by cases hx⟩
  · simp [Value.cells] at hcs
    obtain ⟨rfl, rfl, rfl⟩ := hcs
    simp only [if_true] at hmm
    have c3 : Tryd.prog.cellsOf 30 = 2 := by kernel_rfl
    have key : ∀ i : Nat, ∃ f : Ac, i < len → (∀ k u, (acC1 f)[k]? = some u → W.cell? (a.add (i * 2 + k)) = some u) ∧ (f.what < 256 ∧ -32768 ≤ f.i ∧ f.i ≤ 32767) := by
      intro i
      by_cases h : i < len
      · obtain ⟨cs', h1, h2⟩ := hi i (by omega)
        rw [c3] at h1
        obtain ⟨_, _, hat⟩ := World.cells?_some h1
        obtain ⟨f, rfl, hfit⟩ := open_act h2
        refine ⟨f, fun _ => ⟨fun k u hu => ?_, hfit⟩⟩
        have hk : k < 2 := (List.getElem?_eq_some_iff.1 hu).1
        rw [← add_add, hat k hk, hu]
      · exact ⟨⟨0, 0⟩, fun h' => absurd h' h⟩
    obtain ⟨f, hf2⟩ := Classical.skolem.1 key
    have hlen : ((List.range len).map f).length = len := by simp
    refine ⟨(List.range len).map f, ⟨some a, cap, by rw [hlen], by rw [hlen]; exact hl, acC_length _, (fun e => by cases e), ?_⟩, ?_⟩
    · intro b e j u hj
      cases e
      have hj2 := (List.getElem?_eq_some_iff.1 hj).1
      rw [acC_length, hlen] at hj2
      have hj4 : j / 2 < len := by omega
      have hget : ((List.range len).map f)[j / 2]'(by rw [hlen]; exact hj4) = f (j / 2) := by simp
      have hat := acC_at ((List.range len).map f) (j / 2) (by rw [hlen]; exact hj4)
      rw [hget] at hat
      have hF := (hf2 _ hj4).1
      have hj3 : j = j / 2 * 2 ∨ j = j / 2 * 2 + 1 := by omega
      rcases hj3 with h3 | h3
      · rw [h3, hat.1] at hj
        rw [h3]
        exact hF 0 u (by rw [← hj]; rfl)
      · rw [h3, hat.2] at hj
        rw [h3]
        exact hF 1 u (by rw [← hj]; rfl)
    · intro x hx
      obtain ⟨i, hi', rfl⟩ := List.mem_map.1 hx
      exact (hf2 i (by simpa using hi')).2
/-- Numbers of sixteen bits, as cells. -/
def halvesC (l : List Nat) : List Value := l.map fun n => .int .u16 (n : Nat)
def Hvs (w : World) (v : Value) (l : List Nat) : Prop := Sl 1 w v l.length (halvesC l) ∧ ∀ x ∈ l, x < 65536
set_option maxRecDepth 100000 in
/-- A slice of numbers of sixteen bits that came in. -/
theorem open_halves {H : Type} {enc : TypeId × Value → H} {W : World} {base : Nat} {v : Value} {d : DataW H} {ps : List MemPlace} (hval : Value.okWide Tryd.prog W .any base 47 v) (h : DataW.Trod enc Tryd.prog W 0 (fun _ => true) true 47 v d ps) :
    ∃ l : List Nat, Hvs W v l := by
  obtain ⟨a0, len, cap, rfl⟩ := okWide_slice Tryd.underlying47 hval
  obtain ⟨fuel, hf⟩ := h
  rcases open_ints Tryd.underlying47 Tryd.underlying46 (by kernel_rfl) hf with ⟨hcs, _⟩ | ⟨a, len', cap', zs, hcs, _, hl, hm, hz, _, hcell, hwz⟩
  · simp [Value.cells] at hcs
    obtain ⟨rfl, rfl, rfl⟩ := hcs
    exact ⟨[], Sl.nil 1 _, fun x hx => by cases hx⟩
  · simp [Value.cells] at hcs
    obtain ⟨rfl, rfl, rfl⟩ := hcs
    simp only [if_true] at hz
    have hlen : ((zs.take len).map Int.toNat).length = len := by simp; omega
    refine ⟨(zs.take len).map Int.toNat, ⟨some a, cap, by rw [hlen], by rw [hlen]; exact hl, by simp [halvesC], (fun e => by cases e), ?_⟩, ?_⟩
    · intro b e j u hj
      cases e
      have hj1 : j < len := by
        have h7 := (List.getElem?_eq_some_iff.1 hj).1
        unfold halvesC at h7
        rw [List.length_map, hlen] at h7
        exact h7
      have hj2 : j < zs.length := by omega
      rw [hcell j hj2]
      obtain ⟨m, hm2, hm3⟩ := u16_wf _ (hwz _ (List.getElem_mem hj2))
      unfold halvesC at hj
      simp only [List.map_map, List.getElem?_map, List.getElem?_take, hj1, if_true, List.getElem?_eq_getElem hj2, Option.map_some, Function.comp_apply, Option.some.injEq] at hj
      rw [← hj, hm2]
      simp [List.getD, hj2, hm2]
    · intro x hx
      obtain ⟨z, hz1, rfl⟩ := List.mem_map.1 hx
      obtain ⟨m, rfl, hm3⟩ := u16_wf _ (hwz z (List.mem_of_mem_take hz1))
      simpa using hm3
end Go.Proofs.YtaihcbkdbdhihaaDoor
