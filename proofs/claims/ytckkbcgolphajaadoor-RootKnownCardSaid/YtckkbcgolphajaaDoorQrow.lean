/-
  What the statements' condition on the table of places gives, a world that meets it, and what arguments that came in read as, over this seat's translation; no conditions beside.
-/
import Derived.Test.YtckkbcgolphajaaDoorRows
import Derived.Test.YtckkbcgolphajaaDoorCards
import Derived.Test.YtckkbcgolphajaaDoorTie
import Derived.Test.YtckkbcgolphajaaDoorQl
import Derived.ChangeSame
import Derived.ChangeVars
import Derived.JoinedOf
import Derived.RowKit
import Derived.RowKitTokens
import Derived.LaidLaws
import Derived.LaidHandle
import Derived.Stop.Joined
import Derived.Carry
import Derived.ChangeSlices
import Derived.OpenShut
import Derived.ChangeMaps5
import Derived.Deep.Strs
import Derived.Lib.SmallJoins
namespace Go.Proofs.YtckkbcgolphajaaDoor
open Go.ChangeShapes Go.WideShapes Go.RowKit

theorem Tryd.own : ownKnob Tryd.prog.godebug = none := by kernel_rfl
theorem Tryd.mk : Tryd.prog.globalNamed "foyer/root.places" = some 0 := by kernel_rfl
theorem Tryd.mkT : (Tryd.prog.globals[0]?).map (·.type) = some 72 := by kernel_rfl
/-- What the rows list. -/
def laid1 : List (String × DataW Unit) := [("foyer/root.places", Rows.laid_foyer_root_places)]
theorem laid_at (k : Nat) (hk : k < 4) (xs : List (DataW Unit)) (h : (Rows.laid_foyer_root_places : DataW Unit) = .agg xs) : xs[k]? = some (.agg [.lit (.int .i64 (placesL.getD (2 * k) 0)), .lit (.int .i64 (placesL.getD (2 * k + 1) 0))]) := by
  have h' : (DataW.agg [.agg [.lit (.int .i64 0), .lit (.int .i64 8)], .agg [.lit (.int .i64 8), .lit (.int .i64 2)], .agg [.lit (.int .i64 10), .lit (.int .i64 2)], .agg [.lit (.int .i64 248), .lit (.int .i64 8)]] : DataW Unit) = .agg xs := h
  injection h' with h'
  subst h'
  obtain rfl | rfl | rfl | rfl : k = 0 ∨ k = 1 ∨ k = 2 ∨ k = 3 := by omega
  all_goals rfl
theorem one_cell {cs : List Value} {i : Nat} {v : Value} (h : (cs.drop i).take 1 = [v]) : cs[i]? = some v := by
  have h3 : ((cs.drop i).take 1)[0]? = some v := by rw [h]; rfl
  rw [List.getElem?_take, if_pos (by omega), List.getElem?_drop, Nat.add_zero] at h3
  exact h3
theorem one_cell2 {cs : List Value} {i j n : Nat} {v : Value} (h : ((((cs.drop i).take n).drop j).take 1) = [v]) (hj : j < n) : cs[i + j]? = some v := by
  have h3 := one_cell h
  rw [List.getElem?_take, if_pos hj, List.getElem?_drop] at h3
  exact h3
set_option maxRecDepth 100000 in
/-- What the condition gives a walk. -/
theorem pl_of_laid {W : World} (h : laidMetH Tryd.prog laid1 W) : Pl W := by
  have h' : laidMet Tryd.prog laid1 W := h
  obtain ⟨ps, ⟨g, t, cs, fuel, p, q, e1, e2, e3, e4, _, _⟩, _, _⟩ := h'
  obtain rfl : 0 = g := Option.some.inj (Tryd.mk.symm.trans e1)
  obtain rfl : 72 = t := Option.some.inj (Tryd.mkT.symm.trans e2)
  obtain ⟨xs, m, _, hx, hlen, hxl, hi⟩ := DataW.trod_array Tryd.underlying72 e4
  have hc2 : Tryd.prog.cellsOf 71 = 2 := by kernel_rfl
  have hc1 : Tryd.prog.cellsOf 3 = 1 := by kernel_rfl
  have hdat := (Prod.mk.inj hx).1
  intro j hj
  rw [World.var?_cell Tryd.mk e3 j]
  have hk : j / 2 < 4 := by omega
  have h1 := hi (j / 2) hk
  rw [hc2] at h1
  have hxk : j / 2 < xs.length := by omega
  rw [List.getElem?_eq_getElem hxk] at h1
  have hd := laid_at (j / 2) hk _ hdat
  rw [List.getElem?_map, List.getElem?_eq_getElem hxk, Option.map_some] at hd
  have hd := Option.some.inj hd
  obtain ⟨y0, y1, n, hy, hyl, t0, t1⟩ := trod_struct2 Tryd.underlying71 h1
  obtain ⟨a, ha, hax, _⟩ := DataW.trod_int Tryd.underlying3 t0
  obtain ⟨b, hb, hbx, _⟩ := DataW.trod_int Tryd.underlying3 t1
  rw [hc1] at ha hb
  rw [hy] at hd
  simp only [DataW.agg.injEq, List.cons.injEq, and_true] at hd
  rw [hax, hbx] at hd
  obtain ⟨hd0, hd1⟩ := hd
  injection hd0 with hd0
  injection hd0 with _ hd0
  injection hd1 with hd1
  injection hd1 with _ hd1
  have g0 := one_cell2 (i := j / 2 * 2) (j := 0) (n := 2) ha (by decide)
  have g1 := one_cell2 (i := j / 2 * 2) (j := 1) (n := 2) hb (by decide)
  rw [hd0, Nat.add_zero] at g0
  rw [hd1] at g1
  rcases (show j = 2 * (j / 2) ∨ j = 2 * (j / 2) + 1 by omega) with e | e
  · rw [show j / 2 * 2 = j by omega] at g0
    rw [← e] at g0
    simpa using g0
  · rw [show j / 2 * 2 + 1 = j by omega] at g1
    rw [← e] at g1
    simpa using g1
/-- A world that meets it: the settled one, the variable's cells laid. -/
noncomputable def laidWorld (os : Os) : World :=
  let w0 := World.holding Tryd.prog os ⟨#[], #[], []⟩
  { w0 with heap := w0.heap.modify 0 fun
      | .cells _ t frozen => .cells (placesL.map fun n => Value.int .i64 n).toArray t frozen
      | o => o }
theorem laidWorld_met (os : Os) (args : Array Value) : laidMetH Tryd.prog laid1 ((laidWorld os).forCall (fun _ _ => 0) ⟨#[], args, []⟩).memory := by
  show laidMet Tryd.prog laid1 _
  exact laidMet_of_run' 4 (by kernel_rfl) (by kernel_rfl)
theorem laidOut : laidOutB Tryd.prog = true := by kernel_rfl
/-- What the arguments read as stays, where nothing that was there has turned. -/
theorem all_stays {H : Type} {enc : TypeId × Value → H} {W W' : World} (hb : Below W.heap.size W W') (ts : List TypeId) : ∀ (vs : List Value) (ds : List (DataW H)) (ps : List MemPlace),
    (∀ t ∈ ts, Tryd.prog.readableRec t = true ∧ t < Tryd.prog.types.size) → DataW.TrodAll enc Tryd.prog W 0 (fun _ => true) true ts vs ds ps → (∀ x ∈ ps, x.block < W.heap.size) →
    DataW.TrodAll enc Tryd.prog W' 0 (fun b => decide (b < W.heap.size)) true ts vs ds ps := by
  induction ts with
  | nil =>
    intro vs ds ps _ h _
    obtain ⟨rfl, rfl, rfl⟩ := trodAll_nil h
    exact trodAll_mk0
  | cons t ts ih =>
    intro vs ds ps ht h hlt
    obtain ⟨v, vs', d, ds', p, q, rfl, rfl, rfl, h1, h2⟩ := trodAll_cons h
    have h3 := ht t (List.mem_cons_self ..)
    exact trodAll_cons_mk (Below.trod laidOut h3.1 h3.2 h1 hb (fun x hx => hlt x (List.mem_append_left _ hx))) (ih vs' ds' q (fun t' ht' => ht t' (List.mem_cons_of_mem _ ht')) h2 (fun x hx => hlt x (List.mem_append_right _ hx)))
theorem u8_wf (z : Int) (h : (Lit.int .u8 z).wf = true) : ∃ a : Nat, z = a ∧ a < 256 := by
  have h1 : (decide (0 ≤ z) && decide (z ≤ 255)) = true := h
  simp only [Bool.and_eq_true, decide_eq_true_eq] at h1
  exact ⟨z.toNat, by omega, by omega⟩
theorem u8_wf' (z : Int) (h : (Lit.int .u8 z).wf = true) : ∃ a : UInt8, z = (a.toNat : Nat) := by
  obtain ⟨a, rfl, ha⟩ := u8_wf z h
  exact ⟨UInt8.ofNat a, by rw [UInt8.toNat_ofNat']; omega⟩
theorem u16_wf (z : Int) (h : (Lit.int .u16 z).wf = true) : ∃ a : Nat, z = a ∧ a < 65536 := by
  have h1 : (decide (0 ≤ z) && decide (z ≤ 65535)) = true := h
  simp only [Bool.and_eq_true, decide_eq_true_eq] at h1
  exact ⟨z.toNat, by omega, by omega⟩
theorem u64_wf (z : Int) (h : (Lit.int .u64 z).wf = true) : ∃ a : Nat, z = a ∧ a < 18446744073709551616 := by
  have h1 : (decide (0 ≤ z) && decide (z ≤ 18446744073709551615)) = true := h
  simp only [Bool.and_eq_true, decide_eq_true_eq] at h1
  exact ⟨z.toNat, by omega, by omega⟩
theorem i64_wf (z : Int) (h : (Lit.int .i64 z).wf = true) : -9223372036854775808 ≤ z ∧ z ≤ 9223372036854775807 := by
  have h1 : (decide (-9223372036854775808 ≤ z) && decide (z ≤ 9223372036854775807)) = true := h
  simpa using h1
theorem okWide_array {P : Program} {w : World} {r : Reach} {base n : Nat} {e t : TypeId} {v : Value} (ht : P.underlying t = some (.array n e)) (h : Value.okWide P w r base t v) : ∃ cs, v = .agg cs ∧ cs.size = P.cellsOf t := by
  simp only [Value.okWide, ht] at h
  obtain ⟨cs, h1, h2, _⟩ := h
  exact ⟨cs, h1, h2⟩
set_option maxRecDepth 100000 in
/-- A draft that came in. -/
theorem open_draft {H : Type} {enc : TypeId × Value → H} {W : World} {base : Nat} {v : Value} {d : DataW H} {ps : List MemPlace} (hval : Value.okWide Tryd.prog W .any base 29 v) (h : DataW.Trod enc Tryd.prog W 0 (fun _ => true) true 29 v d ps) :
    ∃ (e s odd : Nat) (cs : List Nat), v = .agg (draftC e s odd cs).toArray ∧ FitD e s odd cs := by
  obtain ⟨vs, rfl, hsz⟩ := okWide_struct Tryd.underlying29 hval
  obtain ⟨fuel, hf⟩ := h
  obtain ⟨y0, y1, y2, y3, n, _, hl, h0, h1, h2, h3⟩ := Go.Joins.trod_struct4 Tryd.underlying29 hf
  obtain ⟨e, he, _, we⟩ := DataW.trod_int Tryd.underlying22 h0
  obtain ⟨s, hs, _, ws⟩ := DataW.trod_int Tryd.underlying26 h1
  obtain ⟨xs, m, _, _, _, hxl, hi⟩ := DataW.trod_array Tryd.underlying27 h2
  obtain ⟨o, ho, _, wo⟩ := DataW.trod_int Tryd.underlying5 h3
  have q1 : Tryd.prog.cellsOf 22 = 1 := by kernel_rfl
  have q2 : Tryd.prog.cellsOf 26 = 1 := by kernel_rfl
  have q3 : Tryd.prog.cellsOf 27 = 8 := by kernel_rfl
  have q4 : Tryd.prog.cellsOf 5 = 1 := by kernel_rfl
  have q5 : Tryd.prog.cellsOf 29 = 11 := by kernel_rfl
  rw [q1] at he
  rw [q2] at hs
  rw [q4] at ho
  have c0 := one_cell he
  have c1 := one_cell hs
  have c10 := one_cell ho
  obtain ⟨e, rfl, he2⟩ := u64_wf e we
  obtain ⟨s, rfl, hs2⟩ := u16_wf s ws
  obtain ⟨o, rfl, ho2⟩ := u8_wf o wo
  have key : ∀ i, ∃ a : Nat, i < 8 → (Value.cells (.agg vs)).toList[2 + i]? = some (.int .u16 (a : Nat)) ∧ a < 65536 := by
    intro i
    by_cases hi8 : i < 8
    · have h5 := hi i hi8
      rw [q2, q3, List.getElem?_eq_getElem (show i < xs.length by omega)] at h5
      obtain ⟨z, hz, _, wz⟩ := DataW.trod_int Tryd.underlying26 h5
      rw [Nat.mul_one] at hz
      obtain ⟨a, rfl, ha⟩ := u16_wf z wz
      exact ⟨a, fun _ => ⟨one_cell2 hz hi8, ha⟩⟩
    · exact ⟨0, fun h => absurd h hi8⟩
  obtain ⟨f, hfk⟩ := Classical.axiomOfChoice key
  refine ⟨e, s, o, (List.range 8).map f, ?_, he2, hs2, ho2, by simp, fun i hi8 => ?_⟩
  · congr 1
    apply Array.ext_getElem?
    intro i
    have hv : (Value.cells (.agg vs)).toList[i]? = vs[i]? := by simp [Value.cells]
    rw [← hv, List.getElem?_toArray]
    by_cases hi11 : i < 11
    · rcases (show i = 0 ∨ i = 1 ∨ (2 ≤ i ∧ i < 10) ∨ i = 10 by omega) with rfl | rfl | hi2 | rfl
      · exact c0
      · exact c1
      · have := (hfk (i - 2) (by omega)).1
        rw [show 2 + (i - 2) = i by omega] at this
        rw [this]
        have := draft_at e s o ((List.range 8).map f) (i - 2) (by simp; omega)
        rw [show 2 + (i - 2) = i by omega] at this
        rw [this]
        simp [List.getD_eq_getElem?_getD, show i - 2 < 8 by omega]
      · rw [draft_odd e s o _ (by simp)]; exact c10
    · rw [List.getElem?_eq_none (by rw [hl, q5]; omega), List.getElem?_eq_none (by simp [draftC]; omega)]
  · rw [List.getD_eq_getElem?_getD]
    simp only [List.getElem?_map, List.getElem?_range hi8, Option.map_some, Option.getD_some]
    exact (hfk i hi8).2
set_option maxRecDepth 100000 in
/-- A root that came in. -/
theorem open_root {H : Type} {enc : TypeId × Value → H} {W : World} {base : Nat} {v : Value} {d : DataW H} {ps : List MemPlace} (hval : Value.okWide Tryd.prog W .any base 25 v) (h : DataW.Trod enc Tryd.prog W 0 (fun _ => true) true 25 v d ps) :
    ∃ r : Rt, v = .agg (rootC r).toArray ∧ Fit r := by
  obtain ⟨vs, rfl, hsz⟩ := okWide_struct Tryd.underlying25 hval
  obtain ⟨fuel, hf⟩ := h
  obtain ⟨y0, y1, y2, n, _, hl, h0, h1, h2⟩ := Go.Deep.trod_struct3 Tryd.underlying25 hf
  obtain ⟨e, he, _, we⟩ := DataW.trod_int Tryd.underlying22 h0
  obtain ⟨s, hs, _, ws⟩ := DataW.trod_int Tryd.underlying3 h1
  obtain ⟨xs, m, _, _, _, hxl, hi⟩ := DataW.trod_array Tryd.underlying23 h2
  have q1 : Tryd.prog.cellsOf 22 = 1 := by kernel_rfl
  have q2 : Tryd.prog.cellsOf 3 = 1 := by kernel_rfl
  have q3 : Tryd.prog.cellsOf 23 = 8 := by kernel_rfl
  have q5 : Tryd.prog.cellsOf 25 = 10 := by kernel_rfl
  rw [q1] at he
  rw [q2] at hs
  have c0 := one_cell he
  have c1 := one_cell hs
  obtain ⟨e, rfl, he2⟩ := u64_wf e we
  have hs2 := i64_wf s ws
  have key : ∀ i, ∃ a : Int, i < 8 → (Value.cells (.agg vs)).toList[2 + i]? = some (.int .i64 a) ∧ (-9223372036854775808 ≤ a ∧ a ≤ 9223372036854775807) := by
    intro i
    by_cases hi8 : i < 8
    · have h5 := hi i hi8
      rw [q2, q3, List.getElem?_eq_getElem (show i < xs.length by omega)] at h5
      obtain ⟨z, hz, _, wz⟩ := DataW.trod_int Tryd.underlying3 h5
      rw [Nat.mul_one] at hz
      exact ⟨z, fun _ => ⟨one_cell2 hz hi8, i64_wf z wz⟩⟩
    · exact ⟨0, fun h => absurd h hi8⟩
  obtain ⟨f, hfk⟩ := Classical.axiomOfChoice key
  refine ⟨⟨e, s, (List.range 8).map f⟩, ?_, by simp, he2, hs2, fun i hi8 => ?_⟩
  · congr 1
    apply Array.ext_getElem?
    intro i
    have hv : (Value.cells (.agg vs)).toList[i]? = vs[i]? := by simp [Value.cells]
    rw [← hv, List.getElem?_toArray]
    by_cases hi11 : i < 10
    · rcases (show i = 0 ∨ i = 1 ∨ (2 ≤ i ∧ i < 10) by omega) with rfl | rfl | hi2
      · exact c0
      · exact c1
      · have := (hfk (i - 2) (by omega)).1
        rw [show 2 + (i - 2) = i by omega] at this
        rw [this]
        have := rootC_chunk ⟨e, s, (List.range 8).map f⟩ (i - 2) (by simp; omega)
        rw [show i - 2 + 2 = i by omega] at this
        rw [this]
        simp [List.getD_eq_getElem?_getD, show i - 2 < 8 by omega]
    · rw [List.getElem?_eq_none (by rw [hl, q5]; omega), List.getElem?_eq_none (by simp [rootC]; omega)]
  · rw [List.getD_eq_getElem?_getD]
    simp only [List.getElem?_map, List.getElem?_range hi8, Option.map_some, Option.getD_some]
    exact (hfk i hi8).2
set_option maxRecDepth 100000 in
/-- Two bytes that came in. -/
theorem open_two {H : Type} {enc : TypeId × Value → H} {W : World} {base : Nat} {v : Value} {d : DataW H} {ps : List MemPlace} (hval : Value.okWide Tryd.prog W .any base 41 v) (h : DataW.Trod enc Tryd.prog W 0 (fun _ => true) true 41 v d ps) :
    ∃ a b : UInt8, v = .agg #[.int .u8 (a.toNat : Nat), .int .u8 (b.toNat : Nat)] := by
  obtain ⟨vs, rfl, hsz⟩ := okWide_array Tryd.underlying41 hval
  obtain ⟨fuel, hf⟩ := h
  obtain ⟨xs, m, _, _, hl, hxl, hi⟩ := DataW.trod_array Tryd.underlying41 hf
  have q1 : Tryd.prog.cellsOf 5 = 1 := by kernel_rfl
  have q5 : Tryd.prog.cellsOf 41 = 2 := by kernel_rfl
  have h0 := hi 0 (by decide)
  have h1 := hi 1 (by decide)
  rw [q1, List.getElem?_eq_getElem (show 0 < xs.length by omega)] at h0
  rw [q1, List.getElem?_eq_getElem (show 1 < xs.length by omega)] at h1
  obtain ⟨z0, e0, _, w0⟩ := DataW.trod_int Tryd.underlying5 h0
  obtain ⟨z1, e1, _, w1⟩ := DataW.trod_int Tryd.underlying5 h1
  have c0 := one_cell e0
  have c1 := one_cell e1
  obtain ⟨a, rfl⟩ := u8_wf' z0 w0
  obtain ⟨b, rfl⟩ := u8_wf' z1 w1
  refine ⟨a, b, ?_⟩
  congr 1
  apply Array.ext_getElem?
  intro i
  have hv : (Value.cells (.agg vs)).toList[i]? = vs[i]? := by simp [Value.cells]
  rw [← hv]
  rcases (show i = 0 ∨ i = 1 ∨ 2 ≤ i by omega) with rfl | rfl | hi2
  · exact c0
  · exact c1
  · rw [List.getElem?_eq_none (by rw [hl, q5]; omega), Array.getElem?_eq_none (by simpa using hi2)]
end Go.Proofs.YtckkbcgolphajaaDoor
