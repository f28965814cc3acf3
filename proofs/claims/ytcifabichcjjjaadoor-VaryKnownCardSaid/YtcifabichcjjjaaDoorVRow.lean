/-
  What the statements' condition on the variable errors.errorType gives, and a world that meets it, over this seat's translation; no conditions beside.
-/
import Derived.Test.YtcifabichcjjjaaDoorRows
import Derived.Test.YtcifabichcjjjaaDoorCards
import Derived.Test.YtcifabichcjjjaaDoorTie
import Derived.Test.YtcifabichcjjjaaDoorVSame
import Derived.Deep.Slices
import Derived.ChangeSame
import Derived.ChangeVars
import Derived.JoinedOf
import Derived.RowKit
import Derived.RowKitTokens
import Derived.LaidLaws
import Derived.LaidHandle
import Derived.Stop.Joined
import Derived.Carry
import Derived.ChangeSlices
import Derived.OpenShut
import Derived.ChangeMaps5
namespace Go.Proofs.YtcifabichcjjjaaDoor
open Go.ChangeShapes Go.WideShapes Go.RowKit

theorem Tryd.own : ownKnob Tryd.prog.godebug = none := by kernel_rfl
theorem Tryd.et : Tryd.prog.globalNamed "errors.errorType" = some 0 := by kernel_rfl
theorem Tryd.rt : (Tryd.prog.cutTypes.find? (·.1 == "internal/reflectlite.rtype")).map (·.2) = some 114 := by kernel_rfl
theorem Tryd.oneRow : ((List.range 156).filter fun t => Tryd.prog.rowNamed t [101, 114, 114, 111, 114]) = [41] := by kernel_rfl
theorem Tryd.ntypes : Tryd.prog.types.size = 156 := by kernel_rfl

theorem nat_of_u64 (n : Int) (h : (Lit.int .u64 n).wf = true) : ∃ a : Nat, n = a ∧ a < 18446744073709551616 := by
  have h' : 0 ≤ n ∧ n < 18446744073709551616 := by
    have h1 : (decide (0 ≤ n) && decide (n ≤ 18446744073709551615)) = true := h
    simp only [Bool.and_eq_true, decide_eq_true_eq] at h1
    omega
  exact ⟨n.toNat, by omega, by omega⟩
/-- What the rows list. -/
def laid1 : List (String × DataW Unit) := [("errors.errorType", Rows.laid_errors_errorType)]
/-- What the condition gives a walk. -/
theorem hd_of_laid {W : World} (h : laidMetH Tryd.prog laid1 W) : Hd W := by
  have h' : laidMet Tryd.prog [] W ∧ handlesMet Tryd.prog laid1 W := h
  obtain ⟨name, u, ty, e1, e2, e3, e4, e5⟩ := h'.2 _ (List.mem_singleton.2 rfl)
  have en : name = [101, 114, 114, 111, 114] := (Option.some.inj e1).symm
  subst en
  obtain rfl := Option.some.inj (Tryd.rt.symm.trans e2)
  have hm : ty ∈ (List.range 156).filter fun t => Tryd.prog.rowNamed t [101, 114, 114, 111, 114] := List.mem_filter.2 ⟨List.mem_range.2 (by rw [← Tryd.ntypes]; exact e3), e4⟩
  rw [Tryd.oneRow] at hm
  obtain rfl := List.mem_singleton.1 hm
  have hh : typeHandle Tryd.prog 41 = .pointer (some ⟨2, 41, none⟩) := by kernel_rfl
  rw [hh] at e5
  unfold Hd
  simpa using World.var?_cell Tryd.et e5 0

/-- A world that meets it: the settled one, the variable's cell laid. -/
noncomputable def laidWorld (os : Os) : World :=
  let w0 := World.holding Tryd.prog os ⟨#[], #[], []⟩
  { w0 with heap := w0.heap.modify 0 fun
      | .cells _ t frozen => .cells #[.iface 114 (.agg #[.pointer (some ⟨2, 41, none⟩)])] t frozen
      | o => o }
theorem laidWorld_met (os : Os) (args : Array Value) : laidMetH Tryd.prog laid1 ((laidWorld os).forCall (fun _ _ => 0) ⟨#[], args, []⟩).memory :=
  laidMetH_of_parts (laidMet_nil _ _) (by kernel_rfl)

theorem laidOut : laidOutB Tryd.prog = true := by kernel_rfl
/-- What the arguments read as stays, where nothing that was there has turned. -/
theorem all_stays {H : Type} {enc : TypeId × Value → H} {W W' : World} (hb : Below W.heap.size W W') (ts : List TypeId) : ∀ (vs : List Value) (ds : List (DataW H)) (ps : List MemPlace),
    (∀ t ∈ ts, Tryd.prog.readableRec t = true ∧ t < Tryd.prog.types.size) → DataW.TrodAll enc Tryd.prog W 0 (fun _ => true) true ts vs ds ps → (∀ x ∈ ps, x.block < W.heap.size) →
    DataW.TrodAll enc Tryd.prog W' 0 (fun b => decide (b < W.heap.size)) true ts vs ds ps := by
  induction ts with
  | nil =>
    intro vs ds ps _ h _
    obtain ⟨rfl, rfl, rfl⟩ := trodAll_nil h
    exact trodAll_mk0
  | cons t ts ih =>
    intro vs ds ps ht h hlt
    obtain ⟨v, vs', d, ds', p, q, rfl, rfl, rfl, h1, h2⟩ := trodAll_cons h
    have h3 := ht t (List.mem_cons_self ..)
    exact trodAll_cons_mk (Below.trod laidOut h3.1 h3.2 h1 hb (fun x hx => hlt x (List.mem_append_left _ hx))) (ih vs' ds' q (fun t' ht' => ht t' (List.mem_cons_of_mem _ ht')) h2 (fun x hx => hlt x (List.mem_append_right _ hx)))
theorem nat_of_u8 (n : Int) (h : (Lit.int .u8 n).wf = true) : ∃ a : Nat, n = a ∧ a < 256 := by
  have h1 : (decide (0 ≤ n) && decide (n ≤ 255)) = true := h
  simp only [Bool.and_eq_true, decide_eq_true_eq] at h1
  exact ⟨n.toNat, by omega, by omega⟩
theorem nat_of_u16 (n : Int) (h : (Lit.int .u16 n).wf = true) : ∃ a : Nat, n = a ∧ a < 65536 := by
  have h1 : (decide (0 ≤ n) && decide (n ≤ 65535)) = true := h
  simp only [Bool.and_eq_true, decide_eq_true_eq] at h1
  exact ⟨n.toNat, by omega, by omega⟩
theorem i64_wf (n : Int) (h : (Lit.int .i64 n).wf = true) : -9223372036854775808 ≤ n ∧ n ≤ 9223372036854775807 := by
  have h1 : (decide (-9223372036854775808 ≤ n) && decide (n ≤ 9223372036854775807)) = true := h
  simp only [Bool.and_eq_true, decide_eq_true_eq] at h1
  exact h1
set_option maxRecDepth 100000 in
/-- One field's four cells. -/
theorem open_field {H : Type} {enc : TypeId × Value → H} {W : World} {base : Nat} {sp : Nat → Bool} {n : Nat} {cs : List Value} {x : DataW H × List MemPlace} (h : DataW.trod enc Tryd.prog W base sp true n 29 cs = some x) :
    ∃ f : Fd, cs = f.cells ∧ f.ok := by
  obtain ⟨xs, k, _, _, hl, hxl, hf⟩ := DataW.trod_struct Tryd.underlying29 h
  have c4 : Tryd.prog.cellsOf 29 = 4 := by kernel_rfl
  have d3 : Tryd.prog.cellsOf 3 = 1 := by kernel_rfl
  have d4 : Tryd.prog.cellsOf 4 = 1 := by kernel_rfl
  have d27 : Tryd.prog.cellsOf 27 = 1 := by kernel_rfl
  have d9 : Tryd.prog.cellsOf 9 = 1 := by kernel_rfl
  rw [c4] at hl
  match cs, hl with
  | [v0, v1, v2, v3], _ =>
    have f0 := hf 0 _ rfl
    have f1 := hf 1 _ rfl
    have f2 := hf 2 _ rfl
    have f3 := hf 3 _ rfl
    have l4 : xs.length = 4 := hxl
    match xs, l4 with
    | [y0, y1, y2, y3], _ =>
      have f0' : DataW.trod enc Tryd.prog W base sp true k 3 (([v0, v1, v2, v3].drop 0).take (Tryd.prog.cellsOf 3)) = some y0 := f0
      have f1' : DataW.trod enc Tryd.prog W base sp true k 4 (([v0, v1, v2, v3].drop 1).take (Tryd.prog.cellsOf 4)) = some y1 := f1
      have f2' : DataW.trod enc Tryd.prog W base sp true k 27 (([v0, v1, v2, v3].drop 2).take (Tryd.prog.cellsOf 27)) = some y2 := f2
      have f3' : DataW.trod enc Tryd.prog W base sp true k 9 (([v0, v1, v2, v3].drop 3).take (Tryd.prog.cellsOf 9)) = some y3 := f3
      rw [d3] at f0'
      rw [d4] at f1'
      rw [d27] at f2'
      rw [d9] at f3'
      obtain ⟨z, e0, _, w0⟩ := DataW.trod_int Tryd.underlying3 f0'
      obtain ⟨b, e1, _⟩ := DataW.trod_bool Tryd.underlying4 f1'
      obtain ⟨m, e2, _, w2⟩ := DataW.trod_int Tryd.underlying27 f2'
      obtain ⟨s, e3, _, w3⟩ := DataW.trod_string Tryd.underlying9 f3'
      obtain ⟨m', rfl, hm⟩ := nat_of_u64 m w2
      have hz := i64_wf z w0
      have g0 : v0 = _ := (List.cons.inj e0).1
      have g1 : v1 = _ := (List.cons.inj e1).1
      have g2 : v2 = _ := (List.cons.inj e2).1
      have g3 : v3 = _ := (List.cons.inj e3).1
      subst g0; subst g1; subst g2; subst g3
      unfold maxLen at w3
      exact ⟨⟨z, b, m', s⟩, rfl, hz.1, hz.2, hm, by simpa using w3⟩

set_option maxRecDepth 100000 in
/-- A slice of fields that came in. -/
theorem open_fields {H : Type} {enc : TypeId × Value → H} {W : World} {base : Nat} {v : Value} {d : DataW H} {ps : List MemPlace} (hval : Value.okWide Tryd.prog W .any base 22 v) (h : DataW.Trod enc Tryd.prog W 0 (fun _ => true) true 22 v d ps) :
    ∃ l : List Fd, Fs W v l ∧ (∀ f ∈ l, f.ok) ∧ l.length ≤ 9223372036854775807 := by
  obtain ⟨a0, len, cap, rfl⟩ := okWide_slice Tryd.underlying22 hval
  obtain ⟨fuel, hf⟩ := h
  rcases Go.Deep.open_slice Tryd.underlying22 hf with ⟨hcs, _⟩ | ⟨a, len', cap', m, n, D, Pl, hcs, _, hl, hm, hmm, _, hi⟩
  · simp [Value.cells] at hcs
    obtain ⟨rfl, rfl, rfl⟩ := hcs
    exact ⟨[], Fs.nil _, by simp, by decide⟩
  · simp [Value.cells] at hcs
    obtain ⟨rfl, rfl, rfl⟩ := hcs
    simp only [if_true] at hmm
    have c4 : Tryd.prog.cellsOf 29 = 4 := by kernel_rfl
    have key : ∀ i : Nat, ∃ f : Fd, i < len → (∀ k u, f.cells[k]? = some u → W.cell? (a.add (i * 4 + k)) = some u) ∧ f.ok := by
      intro i
      by_cases h : i < len
      · obtain ⟨cs', h1, h2⟩ := hi i (by omega)
        rw [c4] at h1
        obtain ⟨_, _, hat⟩ := World.cells?_some h1
        obtain ⟨f, rfl, hok⟩ := open_field h2
        refine ⟨f, fun _ => ⟨fun k u hu => ?_, hok⟩⟩
        have hk : k < 4 := (List.getElem?_eq_some_iff.1 hu).1
        rw [← addr_add, hat k hk, hu]
      · exact ⟨Fd.zero, fun h' => absurd h' h⟩
    obtain ⟨f, hf2⟩ := Classical.skolem.1 key
    have hlen : ((List.range len).map f).length = len := by simp
    have hget : ∀ i, i < len → ((List.range len).map f)[i]? = some (f i) := fun i hi => by simp [hi]
    refine ⟨(List.range len).map f, ⟨some a, cap, by rw [hlen], by rw [hlen]; exact hl, (fun e => by cases e), ?_⟩, ?_, by rw [hlen]; unfold maxLen at hm; omega⟩
    · intro b e j u hj
      cases e
      have hj2 := (List.getElem?_eq_some_iff.1 hj).1
      rw [fcells_length, hlen] at hj2
      have hj3 : j = j / 4 * 4 + j % 4 := by omega
      have hj4 : j / 4 < len := by omega
      rw [hj3, fcells_at _ _ _ (hget _ hj4) _ (by omega)] at hj
      rw [hj3]
      exact (hf2 _ hj4).1 _ u hj
    · intro g hg
      obtain ⟨i, hi, rfl⟩ := List.mem_map.1 hg
      exact (hf2 i (List.mem_range.1 hi)).2
end Go.Proofs.YtcifabichcjjjaaDoor
