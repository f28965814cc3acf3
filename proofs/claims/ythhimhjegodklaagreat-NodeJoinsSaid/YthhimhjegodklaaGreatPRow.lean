/-
  What a plain row's proof wants at this seat: reading what came in, where nothing that was there has turned; numbers of small kinds as natural numbers; a list of texts that came in; no conditions beside those that each law states.
-/
import Derived.Test.YthhimhjegodklaaGreatRows
import Derived.ProofKit
import Derived.OpenShut
import Derived.SliceStrings
import Derived.ChangeSlices
import Derived.ChangeMaps5
namespace Go.Proofs.YthhimhjegodklaaGreat
open Go.ChangeShapes Go.WideShapes Go.ChangeMaps Go.RowKit

theorem Tryz.own : ownKnob Tryz.prog.godebug = none := by kernel_rfl
theorem laidOut : laidOutB Tryz.prog = true := by kernel_rfl
/-- What the arguments read as stays, where nothing that was there has turned. -/
theorem all_stays {H : Type} {enc : TypeId × Value → H} {W W' : World} (hb : Below W.heap.size W W') (ts : List TypeId) : ∀ (vs : List Value) (ds : List (DataW H)) (ps : List MemPlace),
    (∀ t ∈ ts, Tryz.prog.readableRec t = true ∧ t < Tryz.prog.types.size) → DataW.TrodAll enc Tryz.prog W 0 (fun _ => true) true ts vs ds ps → (∀ x ∈ ps, x.block < W.heap.size) →
    DataW.TrodAll enc Tryz.prog W' 0 (fun b => decide (b < W.heap.size)) true ts vs ds ps := by
  induction ts with
  | nil =>
    intro vs ds ps _ h _
    obtain ⟨rfl, rfl, rfl⟩ := trodAll_nil h
    exact trodAll_mk0
  | cons t ts ih =>
    intro vs ds ps ht h hlt
    obtain ⟨v, vs', d, ds', p, q, rfl, rfl, rfl, h1, h2⟩ := trodAll_cons h
    have h3 := ht t (List.mem_cons_self ..)
    exact trodAll_cons_mk (Below.trod laidOut h3.1 h3.2 h1 hb (fun x hx => hlt x (List.mem_append_left _ hx))) (ih vs' ds' q (fun t' ht' => ht t' (List.mem_cons_of_mem _ ht')) h2 (fun x hx => hlt x (List.mem_append_right _ hx)))
theorem nat_of_u8 (n : Int) (h : (Lit.int .u8 n).wf = true) : ∃ a : Nat, n = a ∧ a < 256 := by
  have h1 : (decide (0 ≤ n) && decide (n ≤ 255)) = true := h
  simp only [Bool.and_eq_true, decide_eq_true_eq] at h1
  exact ⟨n.toNat, by omega, by omega⟩
theorem byte_of_u8 (n : Int) (h : (Lit.int .u8 n).wf = true) : ∃ d : UInt8, n = (d.toNat : Nat) := by
  obtain ⟨a, rfl, ha⟩ := nat_of_u8 n h
  exact ⟨UInt8.ofNat a, by simp; omega⟩
theorem nat_of_u16 (n : Int) (h : (Lit.int .u16 n).wf = true) : ∃ a : Nat, n = a ∧ a < 65536 := by
  have h1 : (decide (0 ≤ n) && decide (n ≤ 65535)) = true := h
  simp only [Bool.and_eq_true, decide_eq_true_eq] at h1
  exact ⟨n.toNat, by omega, by omega⟩
theorem nat_of_u32 (n : Int) (h : (Lit.int .u32 n).wf = true) : ∃ a : Nat, n = a ∧ a < 4294967296 := by
  have h1 : (decide (0 ≤ n) && decide (n ≤ 4294967295)) = true := h
  simp only [Bool.and_eq_true, decide_eq_true_eq] at h1
  exact ⟨n.toNat, by omega, by omega⟩
theorem nat_of_u64 (n : Int) (h : (Lit.int .u64 n).wf = true) : ∃ a : Nat, n = a ∧ a < 18446744073709551616 := by
  have h' : 0 ≤ n ∧ n < 18446744073709551616 := by
    have h1 : (decide (0 ≤ n) && decide (n ≤ 18446744073709551615)) = true := h
    simp only [Bool.and_eq_true, decide_eq_true_eq] at h1
    omega
  exact ⟨n.toNat, by omega, by omega⟩
set_option maxRecDepth 100000 in
/-- A list of texts that came in. -/
theorem open_texts {H : Type} {enc : TypeId × Value → H} {W : World} {base : Nat} {v : Value} {d : DataW H} {ps : List MemPlace} (hval : Value.okWide Tryz.prog W .any base 23 v) (h : DataW.Trod enc Tryz.prog W 0 (fun _ => true) true 23 v d ps) :
    v = .slice none 0 0 ∨ ∃ (a : Addr) (len cap : Nat) (ss : Nat → ByteArray), v = .slice (some a) len cap ∧ len ≤ cap ∧ len ≤ 9223372036854775807 ∧ (∀ j, j < len → W.cell? (a.add j) = some (.string (ss j))) ∧ ∀ j, j < len → (ss j).size ≤ 9223372036854775807 := by
  obtain ⟨a0, len, cap, rfl⟩ := okWide_slice Tryz.underlying23 hval
  obtain ⟨fuel, hf⟩ := h
  rcases open_strings Tryz.underlying23 Tryz.underlying9 (by kernel_rfl) hf with ⟨hcs, _⟩ | ⟨a, len', cap', ss, hcs, _, hl, hm, hz, _, hcell, hws⟩
  · left
    simp [Value.cells] at hcs
    obtain ⟨rfl, rfl, rfl⟩ := hcs
    rfl
  · right
    simp [Value.cells] at hcs
    obtain ⟨rfl, rfl, rfl⟩ := hcs
    simp only [if_true] at hz
    refine ⟨a, len, cap, fun j => ss.getD j ByteArray.empty, rfl, hl, by unfold maxLen at hm; omega, fun j hj => hcell j (by omega), fun j hj => ?_⟩
    have hj2 : j < ss.length := by omega
    have := hws _ (List.getElem_mem hj2)
    unfold maxLen at this
    simpa [List.getD, hj2] using this
end Go.Proofs.YthhimhjegodklaaGreat

