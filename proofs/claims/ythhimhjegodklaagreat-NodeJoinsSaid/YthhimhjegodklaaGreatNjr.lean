/-
  What two nodes, and two made nodes, that came in as arguments read as, over this seat's translation; no conditions beside.
-/
import Derived.Test.YthhimhjegodklaaGreatPRow
import Derived.Lib.SmallJoins
import Derived.Test.YthhimhjegodklaaGreatNzo
import Derived.OpenShut
import Derived.Deep.Slices
namespace Go.Proofs.YthhimhjegodklaaGreat.N11
set_option linter.unusedSimpArgs false
set_option linter.unusedVariables false
open Go.ChangeShapes Go.WideShapes Go.RowKit
set_option maxRecDepth 100000 in
theorem open_bs {H : Type} {enc : TypeId × Value → H} {W : World} {base n : Nat} {sp : Nat → Bool} {v : Value} {x : DataW H × List MemPlace} (h : DataW.trod enc Tryz.prog W base sp true n 28 [v] = some x) :
    ∃ l : List UInt8, Bs W v l := by
  rcases Go.Deep.open_slice1 Tryz.underlying28 (by kernel_rfl) h with ⟨hcs, _⟩ | ⟨a, len, cap, m, k, V, D, Pl, hcs, _, hl, hm, hmm, _, hi⟩
  · obtain rfl : v = .slice none 0 0 := (List.cons.inj hcs).1
    exact ⟨[], Bs.nil _⟩
  · obtain rfl : v = .slice (some a) len cap := (List.cons.inj hcs).1
    have hlm : len ≤ m := by rw [hmm]; split <;> omega
    have key : ∀ i : Nat, ∃ b : UInt8, i < len → W.cell? (a.add i) = some (.int .u8 (b.toNat : Nat)) := by
      intro i
      by_cases h : i < len
      · obtain ⟨h1, h2⟩ := hi i (by omega)
        obtain ⟨z, e, _, hz⟩ := DataW.trod_int Tryz.underlying5 h2
        have e2 : V i = .int .u8 z := (List.cons.inj e).1
        obtain ⟨b, rfl⟩ := byte_of_u8 z hz
        exact ⟨b, fun _ => by rw [h1, e2]⟩
      · exact ⟨0, fun h' => absurd h' h⟩
    obtain ⟨f, hf⟩ := Classical.skolem.1 key
    have hlen : ((List.range len).map f).length = len := by simp
    refine ⟨(List.range len).map f, ⟨some a, cap, by rw [hlen], by omega, (fun e => by cases e), ?_⟩⟩
    intro b e j u hj
    cases e
    have hj1 : j < len := by
      have := (List.getElem?_eq_some_iff.1 hj).1
      simpa [bcells] using this
    rw [hf j hj1]
    rw [← hj]
    simp [bcells, hj1]
theorem okWide_arr {P : Program} {w : World} {r : Reach} {base : Nat} {t : TypeId} {v : Value} {n : Nat} {e : TypeId} (ht : P.underlying t = some (.array n e)) (h : Value.okWide P w r base t v) : ∃ cs, v = .agg cs ∧ cs.size = P.cellsOf t := by
  simp only [Value.okWide, ht] at h
  obtain ⟨cs, h1, h2, _⟩ := h
  exact ⟨cs, h1, h2⟩
set_option maxRecDepth 100000 in
/-- One cell's four. -/
theorem open_ce {H : Type} {enc : TypeId × Value → H} {W : World} {base n : Nat} {sp : Nat → Bool} {cs : List Value} {x : DataW H × List MemPlace} (h : DataW.trod enc Tryz.prog W base sp true n 55 cs = some x) :
    ∃ c : Ce, cs = c.row := by
  obtain ⟨xs, k, _, _, hl, hxl, hf⟩ := DataW.trod_struct Tryz.underlying55 h
  have c4 : Tryz.prog.cellsOf 55 = 4 := by kernel_rfl
  have d3 : Tryz.prog.cellsOf 3 = 1 := by kernel_rfl
  have d9 : Tryz.prog.cellsOf 9 = 1 := by kernel_rfl
  rw [c4] at hl
  match cs, hl with
  | [v0, v1, v2, v3], _ =>
    have f0 := hf 0 _ rfl
    have f1 := hf 1 _ rfl
    have f2 := hf 2 _ rfl
    have f3 := hf 3 _ rfl
    have l4 : xs.length = 4 := hxl
    match xs, l4 with
    | [y0, y1, y2, y3], _ =>
      have f0' : DataW.trod enc Tryz.prog W base sp true k 9 (([v0, v1, v2, v3].drop 0).take (Tryz.prog.cellsOf 9)) = some y0 := f0
      have f1' : DataW.trod enc Tryz.prog W base sp true k 9 (([v0, v1, v2, v3].drop 1).take (Tryz.prog.cellsOf 9)) = some y1 := f1
      have f2' : DataW.trod enc Tryz.prog W base sp true k 3 (([v0, v1, v2, v3].drop 2).take (Tryz.prog.cellsOf 3)) = some y2 := f2
      have f3' : DataW.trod enc Tryz.prog W base sp true k 3 (([v0, v1, v2, v3].drop 3).take (Tryz.prog.cellsOf 3)) = some y3 := f3
      rw [d9] at f0' f1'
      rw [d3] at f2' f3'
      obtain ⟨s0, e0, _, _⟩ := DataW.trod_string Tryz.underlying9 f0'
      obtain ⟨s1, e1, _, _⟩ := DataW.trod_string Tryz.underlying9 f1'
      obtain ⟨z2, e2, _, _⟩ := DataW.trod_int Tryz.underlying3 f2'
      obtain ⟨z3, e3, _, _⟩ := DataW.trod_int Tryz.underlying3 f3'
      have g0 : v0 = _ := (List.cons.inj e0).1
      have g1 : v1 = _ := (List.cons.inj e1).1
      have g2 : v2 = _ := (List.cons.inj e2).1
      have g3 : v3 = _ := (List.cons.inj e3).1
      subst g0; subst g1; subst g2; subst g3
      exact ⟨⟨s0, s1, z2, z3⟩, rfl⟩
set_option maxRecDepth 100000 in
theorem open_ces {H : Type} {enc : TypeId × Value → H} {W : World} {base n : Nat} {sp : Nat → Bool} {v : Value} {x : DataW H × List MemPlace} (h : DataW.trod enc Tryz.prog W base sp true n 22 [v] = some x) :
    ∃ l : List Ce, Ces W v l := by
  rcases Go.Deep.open_slice Tryz.underlying22 h with ⟨hcs, _⟩ | ⟨a, len, cap, m, k, D, Pl, hcs, _, hl, hm, hmm, _, hi⟩
  · obtain rfl : v = .slice none 0 0 := (List.cons.inj hcs).1
    exact ⟨[], Sl.nil 4 _⟩
  · obtain rfl : v = .slice (some a) len cap := (List.cons.inj hcs).1
    have hlm : len ≤ m := by rw [hmm]; split <;> omega
    have c4 : Tryz.prog.cellsOf 55 = 4 := by kernel_rfl
    have key : ∀ i : Nat, ∃ c : Ce, i < len → ∀ q u, c.row[q]? = some u → W.cell? (a.add (i * 4 + q)) = some u := by
      intro i
      by_cases h : i < len
      · obtain ⟨cs', h1, h2⟩ := hi i (by omega)
        rw [c4] at h1
        obtain ⟨_, _, hat⟩ := World.cells?_some h1
        obtain ⟨c, rfl⟩ := open_ce h2
        refine ⟨c, fun _ q u hq => ?_⟩
        have hq4 : q < 4 := (List.getElem?_eq_some_iff.1 hq).1
        have h3 := hat q hq4
        rw [addr_add, hq] at h3
        exact h3
      · exact ⟨⟨⟨#[]⟩, ⟨#[]⟩, 0, 0⟩, fun h' => absurd h' h⟩
    obtain ⟨f, hf⟩ := Classical.skolem.1 key
    have hlen : ((List.range len).map f).length = len := by simp
    refine ⟨(List.range len).map f, ⟨some a, cap, by rw [hlen], by omega, by rw [ceC_length], (fun e => by cases e), ?_⟩⟩
    intro b e j u hj
    cases e
    have hj1 : j < len * 4 := by
      have := (List.getElem?_eq_some_iff.1 hj).1
      rw [ceC_length, hlen] at this
      exact this
    have hi1 : j / 4 < len := by omega
    have e1 : j = j / 4 * 4 + j % 4 := by omega
    rw [e1, ceC_at _ (j / 4) (f (j / 4)) (by simp [hi1]) (j % 4) (by omega)] at hj
    have := hf (j / 4) hi1 (j % 4) u hj
    rwa [← e1] at this
set_option maxRecDepth 100000 in
theorem open_sts {H : Type} {enc : TypeId × Value → H} {W : World} {base n : Nat} {sp : Nat → Bool} {v : Value} {x : DataW H × List MemPlace} (h : DataW.trod enc Tryz.prog W base sp true n 23 [v] = some x) :
    ∃ l : List ByteArray, Sts W v l := by
  rcases Go.Deep.open_slice1 Tryz.underlying23 (by kernel_rfl) h with ⟨hcs, _⟩ | ⟨a, len, cap, m, k, V, D, Pl, hcs, _, hl, hm, hmm, _, hi⟩
  · obtain rfl : v = .slice none 0 0 := (List.cons.inj hcs).1
    exact ⟨[], Sl.nil 1 _⟩
  · obtain rfl : v = .slice (some a) len cap := (List.cons.inj hcs).1
    have hlm : len ≤ m := by rw [hmm]; split <;> omega
    have key : ∀ i : Nat, ∃ s : ByteArray, i < len → W.cell? (a.add i) = some (.string s) := by
      intro i
      by_cases h : i < len
      · obtain ⟨h1, h2⟩ := hi i (by omega)
        obtain ⟨s, e, _, _⟩ := DataW.trod_string Tryz.underlying9 h2
        have e2 : V i = .string s := (List.cons.inj e).1
        exact ⟨s, fun _ => by rw [h1, e2]⟩
      · exact ⟨⟨#[]⟩, fun h' => absurd h' h⟩
    obtain ⟨f, hf⟩ := Classical.skolem.1 key
    have hlen : ((List.range len).map f).length = len := by simp
    refine ⟨(List.range len).map f, ⟨some a, cap, by rw [hlen], by omega, by simp [strsC], (fun e => by cases e), ?_⟩⟩
    intro b e j u hj
    cases e
    have hj1 : j < len := by
      have := (List.getElem?_eq_some_iff.1 hj).1
      simpa [strsC] using this
    rw [hf j hj1]
    rw [← hj]
    simp [strsC, hj1]
set_option maxRecDepth 100000 in
theorem open_ins {H : Type} {enc : TypeId × Value → H} {W : World} {base n : Nat} {sp : Nat → Bool} {v : Value} {x : DataW H × List MemPlace} (h : DataW.trod enc Tryz.prog W base sp true n 24 [v] = some x) :
    ∃ l : List Int, Ins W v l := by
  rcases Go.Deep.open_slice1 Tryz.underlying24 (by kernel_rfl) h with ⟨hcs, _⟩ | ⟨a, len, cap, m, k, V, D, Pl, hcs, _, hl, hm, hmm, _, hi⟩
  · obtain rfl : v = .slice none 0 0 := (List.cons.inj hcs).1
    exact ⟨[], Sl.nil 1 _⟩
  · obtain rfl : v = .slice (some a) len cap := (List.cons.inj hcs).1
    have hlm : len ≤ m := by rw [hmm]; split <;> omega
    have key : ∀ i : Nat, ∃ z : Int, i < len → W.cell? (a.add i) = some (.int .i64 z) := by
      intro i
      by_cases h : i < len
      · obtain ⟨h1, h2⟩ := hi i (by omega)
        obtain ⟨z, e, _, _⟩ := DataW.trod_int Tryz.underlying3 h2
        have e2 : V i = .int .i64 z := (List.cons.inj e).1
        exact ⟨z, fun _ => by rw [h1, e2]⟩
      · exact ⟨0, fun h' => absurd h' h⟩
    obtain ⟨f, hf⟩ := Classical.skolem.1 key
    have hlen : ((List.range len).map f).length = len := by simp
    refine ⟨(List.range len).map f, ⟨some a, cap, by rw [hlen], by omega, by simp [inC], (fun e => by cases e), ?_⟩⟩
    intro b e j u hj
    cases e
    have hj1 : j < len := by
      have := (List.getElem?_eq_some_iff.1 hj).1
      simpa [inC] using this
    rw [hf j hj1]
    rw [← hj]
    simp [inC, hj1]
set_option maxRecDepth 100000 in
theorem open_nd {H : Type} {enc : TypeId × Value → H} {W : World} {base n : Nat} {sp : Nat → Bool} {cs : List Value} {x : DataW H × List MemPlace} (h : DataW.trod enc Tryz.prog W base sp true n 26 cs = some x) :
    ∃ (lf : Bool) (a1 : Option Addr) (n1 c1 : Nat) (a2 : Option Addr) (n2 c2 : Nat) (a3 : Option Addr) (n3 c3 : Nat) (N : Nd), cs = [.bool lf, .slice a1 n1 c1, .slice a2 n2 c2, .slice a3 n3 c3] ∧ NdV W (.agg #[.bool lf, .slice a1 n1 c1, .slice a2 n2 c2, .slice a3 n3 c3]) N := by
  obtain ⟨xs, k, _, _, hl, hxl, hf⟩ := DataW.trod_struct Tryz.underlying26 h
  have c4 : Tryz.prog.cellsOf 26 = 4 := by kernel_rfl
  have d0 : Tryz.prog.cellsOf 4 = 1 := by kernel_rfl
  have d1 : Tryz.prog.cellsOf 22 = 1 := by kernel_rfl
  have d2 : Tryz.prog.cellsOf 23 = 1 := by kernel_rfl
  have d3 : Tryz.prog.cellsOf 24 = 1 := by kernel_rfl
  rw [c4] at hl
  match cs, hl with
  | [v0, v1, v2, v3], _ =>
    have f0 := hf 0 _ rfl
    have f1 := hf 1 _ rfl
    have f2 := hf 2 _ rfl
    have f3 := hf 3 _ rfl
    have l4 : xs.length = 4 := hxl
    match xs, l4 with
    | [y0, y1, y2, y3], _ =>
      have f0' : DataW.trod enc Tryz.prog W base sp true k 4 (([v0, v1, v2, v3].drop 0).take (Tryz.prog.cellsOf 4)) = some y0 := f0
      have f1' : DataW.trod enc Tryz.prog W base sp true k 22 (([v0, v1, v2, v3].drop 1).take (Tryz.prog.cellsOf 22)) = some y1 := f1
      have f2' : DataW.trod enc Tryz.prog W base sp true k 23 (([v0, v1, v2, v3].drop 2).take (Tryz.prog.cellsOf 23)) = some y2 := f2
      have f3' : DataW.trod enc Tryz.prog W base sp true k 24 (([v0, v1, v2, v3].drop 3).take (Tryz.prog.cellsOf 24)) = some y3 := f3
      rw [d0] at f0'
      rw [d1] at f1'
      rw [d2] at f2'
      rw [d3] at f3'
      obtain ⟨lf, e0, _⟩ := DataW.trod_bool Tryz.underlying4 f0'
      have g0 : v0 = _ := (List.cons.inj e0).1
      subst g0
      obtain ⟨l1, h1⟩ := open_ces f1'
      obtain ⟨l2, h2⟩ := open_sts f2'
      obtain ⟨l3, h3⟩ := open_ins f3'
      obtain ⟨a1, n1, c1, rfl⟩ := shape' h1
      obtain ⟨a2, n2, c2, rfl⟩ := shape' h2
      obtain ⟨a3, n3, c3, rfl⟩ := shape' h3
      exact ⟨lf, a1, n1, c1, a2, n2, c2, a3, n3, c3, ⟨lf, l1, l2, l3⟩, rfl, _, _, _, rfl, h1, h2, h3⟩
set_option maxRecDepth 100000 in
theorem open_madeC {H : Type} {enc : TypeId × Value → H} {W : World} {base n : Nat} {sp : Nat → Bool} {cs : List Value} {x : DataW H × List MemPlace} (h : DataW.trod enc Tryz.prog W base sp true n 30 cs = some x) :
    ∃ (s : ByteArray) (u : Value) (L : List UInt8), cs = [.string s, u] ∧ Bs W u L := by
  obtain ⟨xs, k, _, _, hl, hxl, hf⟩ := DataW.trod_struct Tryz.underlying30 h
  have c2 : Tryz.prog.cellsOf 30 = 2 := by kernel_rfl
  have d0 : Tryz.prog.cellsOf 9 = 1 := by kernel_rfl
  have d1 : Tryz.prog.cellsOf 28 = 1 := by kernel_rfl
  rw [c2] at hl
  match cs, hl with
  | [v0, v1], _ =>
    have f0 := hf 0 _ rfl
    have f1 := hf 1 _ rfl
    have l2 : xs.length = 2 := hxl
    match xs, l2 with
    | [y0, y1], _ =>
      have f0' : DataW.trod enc Tryz.prog W base sp true k 9 (([v0, v1].drop 0).take (Tryz.prog.cellsOf 9)) = some y0 := f0
      have f1' : DataW.trod enc Tryz.prog W base sp true k 28 (([v0, v1].drop 1).take (Tryz.prog.cellsOf 28)) = some y1 := f1
      rw [d0] at f0'
      rw [d1] at f1'
      obtain ⟨s, e0, _, _⟩ := DataW.trod_string Tryz.underlying9 f0'
      have g0 : v0 = _ := (List.cons.inj e0).1
      subst g0
      obtain ⟨L, hL⟩ := open_bs f1'
      exact ⟨s, v1, L, rfl, hL⟩
set_option maxRecDepth 100000 in
theorem open_two {H : Type} {enc : TypeId × Value → H} {W : World} {base : Nat} {v : Value} {d : DataW H} {ps : List MemPlace} (hval : Value.okWide Tryz.prog W .any base 27 v) (h : DataW.Trod enc Tryz.prog W 0 (fun _ => true) true 27 v d ps) :
    ∃ (lf lg : Bool) (a1 : Option Addr) (n1 c1 : Nat) (a2 : Option Addr) (n2 c2 : Nat) (a3 : Option Addr) (n3 c3 : Nat) (b1 : Option Addr) (m1 d1 : Nat) (b2 : Option Addr) (m2 d2 : Nat) (b3 : Option Addr) (m3 d3 : Nat) (N M : Nd), v = .agg #[.bool lf, .slice a1 n1 c1, .slice a2 n2 c2, .slice a3 n3 c3, .bool lg, .slice b1 m1 d1, .slice b2 m2 d2, .slice b3 m3 d3] ∧
      NdV W (.agg #[.bool lf, .slice a1 n1 c1, .slice a2 n2 c2, .slice a3 n3 c3]) N ∧ NdV W (.agg #[.bool lg, .slice b1 m1 d1, .slice b2 m2 d2, .slice b3 m3 d3]) M := by
  obtain ⟨cs, rfl, hsz⟩ := okWide_arr Tryz.underlying27 hval
  obtain ⟨fuel, hf⟩ := h
  obtain ⟨xs, k, _, _, _, hxl, hfe⟩ := DataW.trod_array Tryz.underlying27 hf
  have c8 : Tryz.prog.cellsOf 27 = 8 := by kernel_rfl
  have c4 : Tryz.prog.cellsOf 26 = 4 := by kernel_rfl
  rw [c8] at hsz
  obtain ⟨y0, hy0⟩ : ∃ y, xs[0]? = some y := ⟨_, List.getElem?_eq_getElem (by omega)⟩
  obtain ⟨y1, hy1⟩ : ∃ y, xs[1]? = some y := ⟨_, List.getElem?_eq_getElem (by omega)⟩
  have f0 := hfe 0 (by omega)
  have f1 := hfe 1 (by omega)
  rw [hy0, c4] at f0
  rw [hy1, c4] at f1
  obtain ⟨cl⟩ := cs
  have hl : cl.length = 8 := hsz
  match cl, hl with
  | [v0, v1, v2, v3, v4, v5, v6, v7], _ =>
    have f0' : DataW.trod enc Tryz.prog W 0 (fun _ => true) true k 26 [v0, v1, v2, v3] = some y0 := f0
    have f1' : DataW.trod enc Tryz.prog W 0 (fun _ => true) true k 26 [v4, v5, v6, v7] = some y1 := f1
    obtain ⟨lf, a1, n1, c1, a2, n2, c2, a3, n3, c3, N, e0, hN⟩ := open_nd f0'
    obtain ⟨lg, b1, m1, d1, b2, m2, d2, b3, m3, d3, M, e1, hM⟩ := open_nd f1'
    simp only [List.cons.injEq, and_true] at e0 e1
    obtain ⟨rfl, rfl, rfl, rfl⟩ := e0
    obtain ⟨rfl, rfl, rfl, rfl⟩ := e1
    exact ⟨lf, lg, a1, n1, c1, a2, n2, c2, a3, n3, c3, b1, m1, d1, b2, m2, d2, b3, m3, d3, N, M, rfl, hN, hM⟩
set_option maxRecDepth 100000 in
theorem open_twom {H : Type} {enc : TypeId × Value → H} {W : World} {base : Nat} {v : Value} {d : DataW H} {ps : List MemPlace} (hval : Value.okWide Tryz.prog W .any base 31 v) (h : DataW.Trod enc Tryz.prog W 0 (fun _ => true) true 31 v d ps) :
    ∃ (s t : ByteArray) (u q : Value) (L M : List UInt8), v = .agg #[.string s, u, .string t, q] ∧ Bs W u L ∧ Bs W q M := by
  obtain ⟨cs, rfl, hsz⟩ := okWide_arr Tryz.underlying31 hval
  obtain ⟨fuel, hf⟩ := h
  obtain ⟨xs, k, _, _, _, hxl, hfe⟩ := DataW.trod_array Tryz.underlying31 hf
  have c8 : Tryz.prog.cellsOf 31 = 4 := by kernel_rfl
  have c4 : Tryz.prog.cellsOf 30 = 2 := by kernel_rfl
  rw [c8] at hsz
  obtain ⟨y0, hy0⟩ : ∃ y, xs[0]? = some y := ⟨_, List.getElem?_eq_getElem (by omega)⟩
  obtain ⟨y1, hy1⟩ : ∃ y, xs[1]? = some y := ⟨_, List.getElem?_eq_getElem (by omega)⟩
  have f0 := hfe 0 (by omega)
  have f1 := hfe 1 (by omega)
  rw [hy0, c4] at f0
  rw [hy1, c4] at f1
  obtain ⟨cl⟩ := cs
  have hl : cl.length = 4 := hsz
  match cl, hl with
  | [v0, v1, v2, v3], _ =>
    have f0' : DataW.trod enc Tryz.prog W 0 (fun _ => true) true k 30 [v0, v1] = some y0 := f0
    have f1' : DataW.trod enc Tryz.prog W 0 (fun _ => true) true k 30 [v2, v3] = some y1 := f1
    obtain ⟨s, u, L, e0, hL⟩ := open_madeC f0'
    obtain ⟨t, q, M, e1, hM⟩ := open_madeC f1'
    simp only [List.cons.injEq, and_true] at e0 e1
    obtain ⟨rfl, rfl⟩ := e0
    obtain ⟨rfl, rfl⟩ := e1
    exact ⟨s, t, _, _, L, M, rfl, hL, hM⟩
end Go.Proofs.YthhimhjegodklaaGreat.N11

