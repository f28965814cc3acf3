/-
  What the statements' condition on the table of math/bits gives, a world that meets it, and what arguments that came in read as, over this seat's translation; no conditions beside.
-/
import Derived.Test.YtaihcbkdbdhihaaDoorRows
import Derived.Test.YtaihcbkdbdhihaaDoorCards
import Derived.Test.YtaihcbkdbdhihaaDoorTie
import Derived.Test.YtaihcbkdbdhihaaDoorMp
import Derived.ChangeSame
import Derived.ChangeVars
import Derived.JoinedOf
import Derived.RowKit
import Derived.RowKitTokens
import Derived.LaidLaws
import Derived.LaidHandle
import Derived.Stop.Joined
import Derived.Carry
import Derived.ChangeSlices
import Derived.OpenShut
import Derived.ChangeMaps5
namespace Go.Proofs.YtaihcbkdbdhihaaDoor
open Go.ChangeShapes Go.WideShapes Go.RowKit

theorem Tryd.own : ownKnob Tryd.prog.godebug = none := by kernel_rfl
theorem Tryd.mk : Tryd.prog.globalNamed "math/bits.deBruijn64tab" = some 0 := by kernel_rfl
theorem Tryd.mkT : (Tryd.prog.globals[0]?).map (·.type) = some 76 := by kernel_rfl
/-- What the rows list. -/
def laid1 : List (String × DataW Unit) := [("math/bits.deBruijn64tab", Rows.laid_math_bits_deBruijn64tab)]
theorem laid_is : (Rows.laid_math_bits_deBruijn64tab : DataW Unit) = .agg (Lib.deBruijn64tab.map fun n => .lit (.int .u8 (n : Nat))) := rfl
set_option maxRecDepth 100000 in
/-- What the condition gives a walk. -/
theorem tab_of_laid {W : World} (h : laidMetH Tryd.prog laid1 W) : Tab W := by
  have h' : laidMet Tryd.prog laid1 W := h
  obtain ⟨ps, ⟨g, t, cs, fuel, p, q, e1, e2, e3, e4, _, _⟩, _, _⟩ := h'
  obtain rfl : 0 = g := Option.some.inj (Tryd.mk.symm.trans e1)
  obtain rfl : 76 = t := Option.some.inj (Tryd.mkT.symm.trans e2)
  obtain ⟨xs, m, _, hx, hlen, hxl, hi⟩ := DataW.trod_array Tryd.underlying76 e4
  have hc1 : Tryd.prog.cellsOf 5 = 1 := by kernel_rfl
  intro k hk
  rw [World.var?_cell Tryd.mk e3 k]
  have h1 := hi k hk
  rw [hc1, Nat.mul_one] at h1
  have hxk : k < xs.length := by omega
  rw [List.getElem?_eq_getElem hxk] at h1
  obtain ⟨n, hn, hnx, _⟩ := DataW.trod_int Tryd.underlying5 h1
  have hd : ((xs.map (·.1))[k]?) = some (.lit (.int .u8 n)) := by rw [List.getElem?_map, List.getElem?_eq_getElem hxk, hnx]; rfl
  have hl : (.agg (Lib.deBruijn64tab.map fun n => .lit (.int .u8 (n : Nat))) : DataW Unit) = .agg (xs.map (·.1)) := laid_is.symm.trans (Prod.mk.inj hx).1
  injection hl with hl
  rw [← hl, List.getElem?_map] at hd
  have hk64 : k < Lib.deBruijn64tab.length := hk
  rw [List.getElem?_eq_getElem hk64] at hd
  have hcs : cs[k]? = some (.int .u8 n) := by
    have h2 : (cs.toList.drop k).take 1 = [Value.int .u8 n] := hn
    have h3 : ((cs.toList.drop k).take 1)[0]? = some (Value.int .u8 n) := by rw [h2]; rfl
    rw [List.getElem?_take, if_pos (by omega), List.getElem?_drop, Nat.add_zero] at h3
    rw [← h3]; simp
  rw [hcs]
  have hd2 := Option.some.inj hd
  injection hd2 with hd3
  injection hd3 with _ hd4
  rw [← hd4, List.getD_eq_getElem?_getD, List.getElem?_eq_getElem hk64, Option.getD_some]

/-- A world that meets it: the settled one, the variable's cells laid. -/
noncomputable def laidWorld (os : Os) : World :=
  let w0 := World.holding Tryd.prog os ⟨#[], #[], []⟩
  { w0 with heap := w0.heap.modify 0 fun
      | .cells _ t frozen => .cells (Lib.deBruijn64tab.map fun n => Value.int .u8 (n : Nat)).toArray t frozen
      | o => o }
theorem laidWorld_met (os : Os) (args : Array Value) : laidMetH Tryd.prog laid1 ((laidWorld os).forCall (fun _ _ => 0) ⟨#[], args, []⟩).memory := by
  show laidMet Tryd.prog laid1 _
  exact laidMet_of_run' 4 (by kernel_rfl) (by kernel_rfl)
theorem laidOut : laidOutB Tryd.prog = true := by kernel_rfl
/-- What the arguments read as stays, where nothing that was there has turned. -/
theorem all_stays {H : Type} {enc : TypeId × Value → H} {W W' : World} (hb : Below W.heap.size W W') (ts : List TypeId) : ∀ (vs : List Value) (ds : List (DataW H)) (ps : List MemPlace),
    (∀ t ∈ ts, Tryd.prog.readableRec t = true ∧ t < Tryd.prog.types.size) → DataW.TrodAll enc Tryd.prog W 0 (fun _ => true) true ts vs ds ps → (∀ x ∈ ps, x.block < W.heap.size) →
    DataW.TrodAll enc Tryd.prog W' 0 (fun b => decide (b < W.heap.size)) true ts vs ds ps := by
  induction ts with
  | nil =>
    intro vs ds ps _ h _
    obtain ⟨rfl, rfl, rfl⟩ := trodAll_nil h
    exact trodAll_mk0
  | cons t ts ih =>
    intro vs ds ps ht h hlt
    obtain ⟨v, vs', d, ds', p, q, rfl, rfl, rfl, h1, h2⟩ := trodAll_cons h
    have h3 := ht t (List.mem_cons_self ..)
    exact trodAll_cons_mk (Below.trod laidOut h3.1 h3.2 h1 hb (fun x hx => hlt x (List.mem_append_left _ hx))) (ih vs' ds' q (fun t' ht' => ht t' (List.mem_cons_of_mem _ ht')) h2 (fun x hx => hlt x (List.mem_append_right _ hx)))
theorem u8_wf (z : Int) (h : (Lit.int .u8 z).wf = true) : ∃ a : Nat, z = a ∧ a < 256 := by
  have h1 : (decide (0 ≤ z) && decide (z ≤ 255)) = true := h
  simp only [Bool.and_eq_true, decide_eq_true_eq] at h1
  exact ⟨z.toNat, by omega, by omega⟩
theorem u16_wf (z : Int) (h : (Lit.int .u16 z).wf = true) : ∃ a : Nat, z = a ∧ a < 65536 := by
  have h1 : (decide (0 ≤ z) && decide (z ≤ 65535)) = true := h
  simp only [Bool.and_eq_true, decide_eq_true_eq] at h1
  exact ⟨z.toNat, by omega, by omega⟩
theorem i16_wf (z : Int) (h : (Lit.int .i16 z).wf = true) : -32768 ≤ z ∧ z ≤ 32767 := by
  have h1 : (decide (-32768 ≤ z) && decide (z ≤ 32767)) = true := h
  simpa using h1
theorem i64_wf (z : Int) (h : (Lit.int .i64 z).wf = true) : -9223372036854775808 ≤ z ∧ z ≤ 9223372036854775807 := by
  have h1 : (decide (-9223372036854775808 ≤ z) && decide (z ≤ 9223372036854775807)) = true := h
  simpa using h1
end Go.Proofs.YtaihcbkdbdhihaaDoor
