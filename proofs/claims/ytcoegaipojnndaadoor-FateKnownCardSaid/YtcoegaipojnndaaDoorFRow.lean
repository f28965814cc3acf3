/-
  What the statements' condition on the variable fate.masks gives, a world that meets it, and what arguments that came in read as, over this seat's translation; no conditions beside.
-/
import Derived.Test.YtcoegaipojnndaaDoorRows
import Derived.Test.YtcoegaipojnndaaDoorCards
import Derived.Test.YtcoegaipojnndaaDoorTie
import Derived.Test.YtcoegaipojnndaaDoorFl3
import Derived.ChangeSame
import Derived.ChangeVars
import Derived.JoinedOf
import Derived.RowKit
import Derived.RowKitTokens
import Derived.LaidLaws
import Derived.LaidHandle
import Derived.Stop.Joined
import Derived.Carry
import Derived.ChangeSlices
import Derived.OpenShut
import Derived.ChangeMaps5
namespace Go.Proofs.YtcoegaipojnndaaDoor
open Go.ChangeShapes Go.WideShapes Go.RowKit

theorem Tryd.own : ownKnob Tryd.prog.godebug = none := by kernel_rfl
theorem Tryd.mk : Tryd.prog.globalNamed "foyer/fate.masks" = some 0 := by kernel_rfl
theorem Tryd.mkT : (Tryd.prog.globals[0]?).map (·.type) = some 72 := by kernel_rfl
/-- What the rows list. -/
def laid1 : List (String × DataW Unit) := [("foyer/fate.masks", Rows.laid_foyer_fate_masks)]
set_option maxRecDepth 100000 in
/-- What the condition gives a walk. -/
theorem masks_of_laid {W : World} (h : laidMetH Tryd.prog laid1 W) : Masks W := by
  have h' : laidMet Tryd.prog laid1 W := h
  obtain ⟨ps, ⟨g, t, cs, fuel, p, q, e1, e2, e3, e4, _, _⟩, _, _⟩ := h'
  obtain rfl : 0 = g := Option.some.inj (Tryd.mk.symm.trans e1)
  obtain rfl : 72 = t := Option.some.inj (Tryd.mkT.symm.trans e2)
  obtain ⟨xs, m, _, hx, hlen, hxl, hi⟩ := DataW.trod_array Tryd.underlying72 e4
  have hc1 : Tryd.prog.cellsOf 5 = 1 := by kernel_rfl
  intro k hk
  rw [World.var?_cell Tryd.mk e3 k]
  have h1 := hi k hk
  rw [hc1, Nat.mul_one] at h1
  have hxk : k < xs.length := by omega
  rw [List.getElem?_eq_getElem hxk] at h1
  obtain ⟨n, hn, hnx, _⟩ := DataW.trod_int Tryd.underlying5 h1
  have hd : ((xs.map (·.1))[k]?) = some (.lit (.int .u8 n)) := by rw [List.getElem?_map, List.getElem?_eq_getElem hxk, hnx]; rfl
  have hl : (.agg [.lit (.int .u8 1), .lit (.int .u8 2), .lit (.int .u8 4), .lit (.int .u8 8), .lit (.int .u8 16), .lit (.int .u8 32), .lit (.int .u8 64), .lit (.int .u8 128)] : DataW Unit) = .agg (xs.map (·.1)) := (Prod.mk.inj hx).1
  injection hl with hl
  rw [← hl] at hd
  have hcs : cs[k]? = some (.int .u8 n) := by
    have h2 : (cs.toList.drop k).take 1 = [Value.int .u8 n] := hn
    have h3 : ((cs.toList.drop k).take 1)[0]? = some (Value.int .u8 n) := by rw [h2]; rfl
    rw [List.getElem?_take, if_pos (by omega), List.getElem?_drop, Nat.add_zero] at h3
    rw [← h3]; simp
  rw [hcs]
  have hk8 : k = 0 ∨ k = 1 ∨ k = 2 ∨ k = 3 ∨ k = 4 ∨ k = 5 ∨ k = 6 ∨ k = 7 := by omega
  rcases hk8 with rfl | rfl | rfl | rfl | rfl | rfl | rfl | rfl <;> (simp at hd; subst hd; rfl)

/-- A world that meets it: the settled one, the variable's cells laid. -/
noncomputable def laidWorld (os : Os) : World :=
  let w0 := World.holding Tryd.prog os ⟨#[], #[], []⟩
  { w0 with heap := w0.heap.modify 0 fun
      | .cells _ t frozen => .cells #[.int .u8 1, .int .u8 2, .int .u8 4, .int .u8 8, .int .u8 16, .int .u8 32, .int .u8 64, .int .u8 128] t frozen
      | o => o }
theorem laidWorld_met (os : Os) (args : Array Value) : laidMetH Tryd.prog laid1 ((laidWorld os).forCall (fun _ _ => 0) ⟨#[], args, []⟩).memory := by
  show laidMet Tryd.prog laid1 _
  exact laidMet_of_run' 4 (by kernel_rfl) (by kernel_rfl)
theorem laidOut : laidOutB Tryd.prog = true := by kernel_rfl
/-- What the arguments read as stays, where nothing that was there has turned. -/
theorem all_stays {H : Type} {enc : TypeId × Value → H} {W W' : World} (hb : Below W.heap.size W W') (ts : List TypeId) : ∀ (vs : List Value) (ds : List (DataW H)) (ps : List MemPlace),
    (∀ t ∈ ts, Tryd.prog.readableRec t = true ∧ t < Tryd.prog.types.size) → DataW.TrodAll enc Tryd.prog W 0 (fun _ => true) true ts vs ds ps → (∀ x ∈ ps, x.block < W.heap.size) →
    DataW.TrodAll enc Tryd.prog W' 0 (fun b => decide (b < W.heap.size)) true ts vs ds ps := by
  induction ts with
  | nil =>
    intro vs ds ps _ h _
    obtain ⟨rfl, rfl, rfl⟩ := trodAll_nil h
    exact trodAll_mk0
  | cons t ts ih =>
    intro vs ds ps ht h hlt
    obtain ⟨v, vs', d, ds', p, q, rfl, rfl, rfl, h1, h2⟩ := trodAll_cons h
    have h3 := ht t (List.mem_cons_self ..)
    exact trodAll_cons_mk (Below.trod laidOut h3.1 h3.2 h1 hb (fun x hx => hlt x (List.mem_append_left _ hx))) (ih vs' ds' q (fun t' ht' => ht t' (List.mem_cons_of_mem _ ht')) h2 (fun x hx => hlt x (List.mem_append_right _ hx)))
theorem byte_wf (z : Int) (h : (Lit.int .u8 z).wf = true) : ((UInt8.ofNat z.toNat).toNat : Int) = z := by
  have h1 : (decide (0 ≤ z) && decide (z ≤ 255)) = true := h
  simp only [Bool.and_eq_true, decide_eq_true_eq] at h1
  simp; omega
set_option maxRecDepth 100000 in
/-- A slice of bytes that came in. -/
theorem open_bytes {H : Type} {enc : TypeId × Value → H} {W : World} {base : Nat} {v : Value} {d : DataW H} {ps : List MemPlace} (hval : Value.okWide Tryd.prog W .any base 29 v) (h : DataW.Trod enc Tryd.prog W 0 (fun _ => true) true 29 v d ps) :
    ∃ l : List UInt8, Bts W v l ∧ l.length ≤ 9223372036854775807 := by
  obtain ⟨a0, len, cap, rfl⟩ := okWide_slice Tryd.underlying29 hval
  obtain ⟨fuel, hf⟩ := h
  rcases open_ints Tryd.underlying29 Tryd.underlying5 (by kernel_rfl) hf with ⟨hcs, _⟩ | ⟨a, len', cap', zs, hcs, _, hl, hm, hz, _, hcell, hwz⟩
  · simp [Value.cells] at hcs
    obtain ⟨rfl, rfl, rfl⟩ := hcs
    exact ⟨[], Bts.nil _, by decide⟩
  · simp [Value.cells] at hcs
    obtain ⟨rfl, rfl, rfl⟩ := hcs
    simp only [if_true] at hz
    have hlen : ((zs.take len).map fun z => UInt8.ofNat z.toNat).length = len := by simp; omega
    refine ⟨(zs.take len).map fun z => UInt8.ofNat z.toNat, ⟨some a, cap, by rw [hlen], by omega, by simp [bytesC], (fun e => by cases e), ?_⟩, by unfold maxLen at hm; omega⟩
    intro b e j u hj
    cases e
    have hj1 : j < len := by
      have h7 := (List.getElem?_eq_some_iff.1 hj).1
      unfold bytesC at h7
      rw [List.length_map, hlen] at h7
      exact h7
    have hj2 : j < zs.length := by omega
    rw [hcell j hj2]
    unfold bytesC at hj
    simp only [List.map_map, List.getElem?_map, List.getElem?_take, hj1, if_true, List.getElem?_eq_getElem hj2, Option.map_some, Function.comp_apply, Option.some.injEq] at hj
    rw [← hj, byte_wf _ (hwz _ (List.getElem_mem hj2))]
    simp [List.getD, hj2]
theorem i64_wf (z : Int) (h : (Lit.int .i64 z).wf = true) : -9223372036854775808 ≤ z ∧ z ≤ 9223372036854775807 := by
  have h1 : (decide (-9223372036854775808 ≤ z) && decide (z ≤ 9223372036854775807)) = true := h
  simpa using h1
theorem nat_of_u8 (n : Int) (h : (Lit.int .u8 n).wf = true) : ∃ c : UInt8, n = (c.toNat : Nat) := ⟨UInt8.ofNat n.toNat, (byte_wf n h).symm⟩
end Go.Proofs.YtcoegaipojnndaaDoor
