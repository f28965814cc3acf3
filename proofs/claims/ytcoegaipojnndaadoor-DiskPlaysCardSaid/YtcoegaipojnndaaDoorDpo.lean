/-
  What acts that came in as an argument read as, over this seat's translation; no conditions beside.
-/
import Derived.Test.YtcoegaipojnndaaDoorDp1
import Derived.Test.YtcoegaipojnndaaDoorFRow
import Derived.Deep.Slices
import Derived.Lib.SmallJoins
namespace Go.Proofs.YtcoegaipojnndaaDoor
open Go.ChangeShapes Go.WideShapes Go.RowKit

theorem i16_wf (z : Int) (h : (Lit.int .i16 z).wf = true) : -32768 ≤ z ∧ z ≤ 32767 := by
  have h1 : (decide (-32768 ≤ z) && decide (z ≤ 32767)) = true := h
  simpa using h1
theorem i8_wf (z : Int) (h : (Lit.int .i8 z).wf = true) : -128 ≤ z ∧ z ≤ 127 := by
  have h1 : (decide (-128 ≤ z) && decide (z ≤ 127)) = true := h
  simpa using h1
set_option maxRecDepth 100000 in
/-- Bytes within a datum. -/
theorem open_byts {H : Type} {enc : TypeId × Value → H} {W : World} {base n : Nat} {sp : Nat → Bool} {v : Value} {x : DataW H × List MemPlace} (h : DataW.trod enc Tryd.prog W base sp true n 29 [v] = some x) :
    ∃ l : List UInt8, Bts W v l := by
  rcases Go.Deep.open_slice1 Tryd.underlying29 (by kernel_rfl) h with ⟨hcs, _⟩ | ⟨a, len, cap, m, k, V, D, Pl, hcs, _, hl, hm, hmm, _, hi⟩
  · obtain rfl : v = .slice none 0 0 := (List.cons.inj hcs).1
    exact ⟨[], Sl.nil 1 _⟩
  · obtain rfl : v = .slice (some a) len cap := (List.cons.inj hcs).1
    have hlm : len ≤ m := by rw [hmm]; split <;> omega
    have key : ∀ i : Nat, ∃ b : UInt8, i < len → W.cell? (a.add i) = some (.int .u8 (b.toNat : Nat)) := by
      intro i
      by_cases h : i < len
      · obtain ⟨h1, h2⟩ := hi i (by omega)
        obtain ⟨z, e, _, hz⟩ := DataW.trod_int Tryd.underlying5 h2
        have e2 : V i = .int .u8 z := (List.cons.inj e).1
        obtain ⟨b, rfl⟩ := nat_of_u8 z hz
        exact ⟨b, fun _ => by rw [h1, e2]⟩
      · exact ⟨0, fun h' => absurd h' h⟩
    obtain ⟨f, hf⟩ := Classical.skolem.1 key
    have hlen : ((List.range len).map f).length = len := by simp
    refine ⟨(List.range len).map f, ⟨some a, cap, by rw [hlen], by omega, by simp [bytesC], (fun e => by cases e), ?_⟩⟩
    intro b e j u hj
    cases e
    have hj1 : j < len := by
      have := (List.getElem?_eq_some_iff.1 hj).1
      simpa [bytesC] using this
    rw [hf j hj1]
    rw [← hj]
    simp [bytesC, hj1]
set_option maxRecDepth 100000 in
theorem open_act {H : Type} {enc : TypeId × Value → H} {W : World} {base : Nat} {sp : Nat → Bool} {n : Nat} {cs : List Value} {x : DataW H × List MemPlace} (h : DataW.trod enc Tryd.prog W base sp true n 48 cs = some x) :
    ∃ f : Ac, cs = acC1 f ∧ f.Fit W := by
  obtain ⟨xs, k, _, _, hl, hxl, hf⟩ := DataW.trod_struct Tryd.underlying48 h
  have c3 : Tryd.prog.cellsOf 48 = 5 := by kernel_rfl
  have d1 : Tryd.prog.cellsOf 5 = 1 := by kernel_rfl
  have d2 : Tryd.prog.cellsOf 45 = 1 := by kernel_rfl
  have d3 : Tryd.prog.cellsOf 46 = 1 := by kernel_rfl
  have d4 : Tryd.prog.cellsOf 29 = 1 := by kernel_rfl
  rw [c3] at hl
  match cs, hl with
  | [v0, v1, v2, v3, v4], _ =>
    have f0 := hf 0 _ rfl
    have f1 := hf 1 _ rfl
    have f2 := hf 2 _ rfl
    have f3 := hf 3 _ rfl
    have f4 := hf 4 _ rfl
    have l3 : xs.length = 5 := hxl
    match xs, l3 with
    | [y0, y1, y2, y3, y4], _ =>
      have f0' : DataW.trod enc Tryd.prog W base sp true k 5 (([v0, v1, v2, v3, v4].drop 0).take (Tryd.prog.cellsOf 5)) = some y0 := f0
      have f1' : DataW.trod enc Tryd.prog W base sp true k 45 (([v0, v1, v2, v3, v4].drop 1).take (Tryd.prog.cellsOf 45)) = some y1 := f1
      have f2' : DataW.trod enc Tryd.prog W base sp true k 5 (([v0, v1, v2, v3, v4].drop 2).take (Tryd.prog.cellsOf 5)) = some y2 := f2
      have f3' : DataW.trod enc Tryd.prog W base sp true k 46 (([v0, v1, v2, v3, v4].drop 3).take (Tryd.prog.cellsOf 46)) = some y3 := f3
      have f4' : DataW.trod enc Tryd.prog W base sp true k 29 (([v0, v1, v2, v3, v4].drop 4).take (Tryd.prog.cellsOf 29)) = some y4 := f4
      rw [d1] at f0' f2'
      rw [d2] at f1'
      rw [d3] at f3'
      rw [d4] at f4'
      obtain ⟨a, e0, _, w0⟩ := DataW.trod_int Tryd.underlying5 f0'
      obtain ⟨b, e1, _, w1⟩ := DataW.trod_int Tryd.underlying45 f1'
      obtain ⟨c, e2, _, w2⟩ := DataW.trod_int Tryd.underlying5 f2'
      obtain ⟨d, e3, _, w3⟩ := DataW.trod_int Tryd.underlying46 f3'
      obtain ⟨l, hb⟩ := open_byts (v := v4) f4'
      obtain ⟨a', rfl⟩ := nat_of_u8 a w0
      obtain ⟨c', rfl⟩ := nat_of_u8 c w2
      have g0 : v0 = _ := (List.cons.inj e0).1
      have g1 : v1 = _ := (List.cons.inj e1).1
      have g2 : v2 = _ := (List.cons.inj e2).1
      have g3 : v3 = _ := (List.cons.inj e3).1
      subst g0; subst g1; subst g2; subst g3
      have h1 := i16_wf _ w1
      have h3 := i8_wf _ w3
      exact ⟨⟨a', b, c', d, v4, l⟩, rfl, hb, h1.1, h1.2, h3.1, h3.2⟩
set_option maxRecDepth 100000 in
/-- A slice of acts that came in. -/
theorem open_acts {H : Type} {enc : TypeId × Value → H} {W : World} {base : Nat} {v : Value} {d : DataW H} {ps : List MemPlace} (hval : Value.okWide Tryd.prog W .any base 40 v) (h : DataW.Trod enc Tryd.prog W 0 (fun _ => true) true 40 v d ps) :
    ∃ l : List Ac, Acs W v l := by
  obtain ⟨a0, len, cap, rfl⟩ := okWide_slice Tryd.underlying40 hval
  obtain ⟨fuel, hf⟩ := h
  rcases Go.Deep.open_slice Tryd.underlying40 hf with ⟨hcs, _⟩ | ⟨a, len', cap', m, n, D, Pl, hcs, _, hl, hm, hmm, _, hi⟩
  · simp [Value.cells] at hcs
    obtain ⟨rfl, rfl, rfl⟩ := hcs
    exact ⟨[], Sl.nil 5 _, fun x hx => by cases hx⟩
  · simp [Value.cells] at hcs
    obtain ⟨rfl, rfl, rfl⟩ := hcs
    simp only [if_true] at hmm
    have c3 : Tryd.prog.cellsOf 48 = 5 := by kernel_rfl
    have key : ∀ i : Nat, ∃ f : Ac, i < len → (∀ k u, (acC1 f)[k]? = some u → W.cell? (a.add (i * 5 + k)) = some u) ∧ f.Fit W := by
      intro i
      by_cases h : i < len
      · obtain ⟨cs', h1, h2⟩ := hi i (by omega)
        rw [c3] at h1
        obtain ⟨_, _, hat⟩ := World.cells?_some h1
        obtain ⟨f, rfl, hfit⟩ := open_act h2
        refine ⟨f, fun _ => ⟨fun k u hu => ?_, hfit⟩⟩
        have hk : k < 5 := (List.getElem?_eq_some_iff.1 hu).1
        rw [← add_add, hat k hk, hu]
      · exact ⟨⟨0, 0, 0, 0, .bool true, []⟩, fun h' => absurd h' h⟩
    obtain ⟨f, hf2⟩ := Classical.skolem.1 key
    have hlen : ((List.range len).map f).length = len := by simp
    refine ⟨(List.range len).map f, ⟨some a, cap, by rw [hlen], by rw [hlen]; exact hl, acC_length _, (fun e => by cases e), ?_⟩, ?_⟩
    · intro b e j u hj
      cases e
      have hj2 := (List.getElem?_eq_some_iff.1 hj).1
      rw [acC_length, hlen] at hj2
      have hj4 : j / 5 < len := by omega
      have hget : ((List.range len).map f)[j / 5]? = some (f (j / 5)) := by simp [hj4]
      have hj3 : j = j / 5 * 5 + j % 5 := by omega
      rw [hj3] at hj ⊢
      rw [acC_at _ _ _ hget (j % 5) (by omega)] at hj
      exact (hf2 _ hj4).1 (j % 5) u hj
    · intro x hx
      obtain ⟨i, hi', rfl⟩ := List.mem_map.1 hx
      exact (hf2 i (by simpa using hi')).2
end Go.Proofs.YtcoegaipojnndaaDoor
