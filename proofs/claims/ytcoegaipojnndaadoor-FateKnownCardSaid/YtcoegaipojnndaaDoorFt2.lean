/-
  The iterator through the writes that came (fate.arrived): its contract, over this seat's translation; conditions: the list's cells lie below the caller's own blocks.
-/
import Derived.RangeFuncNested
import Derived.RangeFuncBound
import Derived.RangeFuncCalls
import Derived.RangeFuncLeaves
import Derived.RangeFuncBox
import Derived.Shelf.Abstract
import Derived.Shelf.RegionOpen
import Derived.OwnWalkIn
import Derived.TacticsInMore
import Derived.LoopNIn
import Derived.LoopIn
import Derived.Test.YtcoegaipojnndaaDoorFt1
namespace Go.Proofs.YtcoegaipojnndaaDoor
open Go.RowKit Go.Shelf
attribute [local go_sem] Oper.semAt_some

/-- A write that came, by its number, and how many came ahead of it. -/
abbrev Came (l : List Bool) := { x : Nat × Nat // x.2 < l.length ∧ l.getD x.2 false = true ∧ x.1 = (cameTo l x.2).length }
/-- A round keeps all cells below a bound. -/
def Kept (N : Nat) (W W' : World) : Prop := ∀ (p : Addr) v, p.block < N → W.cell? p = some v → W'.cell? p = some v
theorem kept_t {N : Nat} {X Y Z : World} (h : Kept N X Y) (k : Kept N Y Z) : Kept N X Z := fun p v hp hv => k p v hp (h p v hp hv)
theorem kept_refl (N : Nat) (X : World) : Kept N X X := fun _ _ _ h => h
theorem kept_b {N : Nat} {w : World} (W : World) (l : Nat) (o o' : Obj) (_ : w.heap.size ≤ l) (h : W.heap[l]? = some o) (ho : o.isCells = false) (_ : o.isWalk = false) : Kept N W (W.putObj l o') :=
  fun _ _ _ hv => cell_kept hv (grownBy_putObj' W l o') (fun r e => by cases e; exact ⟨o, h, ho⟩)
theorem kept_below {N : Nat} {W W' : World} (h : Below N W W') : Kept N W W' := fun p v hp hv => by
  rw [h.cell hp]; exact hv
theorem add_block (a : Addr) (k : Nat) : (a.add k).block = a.block := by
  unfold Addr.add; split <;> rfl
theorem arrived_any (ao : Option Addr) (n cap : Nat) (w : World) :
    Calls Tryd.prog 35 #[.slice ao n cap] w fun e w' => e = .returned (.func (.func 50) #[] #[.pointer (some ⟨w.heap.size, 0, none⟩)]) ∧ w' = w.alloc (.cells #[.slice ao n cap] 23) := by
  go_enter Tryd.func35, Tryd.ntmps35
  go_wp2
  go_ret
  exact ⟨rfl, rfl⟩
set_option maxRecDepth 100000 in
set_option maxHeartbeats 1000000 in
theorem arrived1_in (F : Fence) (n : Nat) (h6 : F.fn 50) (hro : F.round = none) (hn : 1 ≤ n) (l Bn Nb : Nat) (ao : Option Addr) (cap : Nat) (b : List Bool) (hb : b.length ≤ 1000000) (J Jx : List (Came b) → World → Prop)
    (hY : ∀ pre x W, J pre W → pre.length < b.length + 1 → YieldAt F (n - 1) Tryd.prog l #[.int .i64 (x.1.1 : Nat), .int .i64 (x.1.2 : Nat)] W fun e W' =>
      (e = .returned (.bool true) ∧ J (pre ++ [x]) W' ∧ Kept Nb W W') ∨ (e = .returned (.bool false) ∧ Jx (pre ++ [x]) W'))
    (W : World) (hBn : W.cell? ⟨Bn, 0, none⟩ = some (.slice ao b.length cap)) (hnil : ao = none → b.length = 0) (hlow : ∀ a, ao = some a → 0 < b.length → a.block < Nb)
    (hcells : ∀ a, ao = some a → ∀ j u, (bools b)[j]? = some u → W.cell? (a.add j) = some u) (h0 : J [] W) :
    CallsIn F n Tryd.prog 50 #[.func (.yield l) #[] #[], .pointer (some ⟨Bn, 0, none⟩)] W fun e W' => (∃ v, e = .returned v) ∧
      ((∃ ys, ys.map (fun x => x.1.2) = cameTo b b.length ∧ J ys W') ∨ (∃ pre, (∃ k, k ≤ b.length ∧ pre.map (fun x => x.1.2) = cameTo b k) ∧ Jx pre W')) := by
  have HN := Lib.hid hnil
  have HL := Lib.hid hlow
  have HC := Lib.hid hcells
  clear hnil hlow hcells
  refine callsIn_of_wp Tryd.func50 rfl h6 ?_ hro
  simp only [Tryd.ntmps50, List.size_toArray, List.length_cons, List.length_nil, Nat.reduceAdd, Nat.reduceSub, Array.replicate_succ, Array.replicate_zero, List.push_toArray, List.append_toArray, List.nil_append, List.cons_append]
  gi_wp2
  gi_loopw [3, 8] (fun v3 v8 wr => ∃ (k : Nat) (pre : List (Came b)), v8 = .int .i64 (k : Nat) ∧ v3 = .int .i64 (pre.length : Nat) ∧ k ≤ b.length ∧ pre.map (fun x => x.1.2) = cameTo b k ∧ Kept Nb W wr ∧ J pre wr)
    (fun _ i _ => b.length - (intOf i).toNat)
  case atStart =>
    exact ⟨0, [], rfl, rfl, by omega, rfl, kept_refl _ _, h0⟩
  case round =>
    obtain ⟨k, pre, rfl, rfl, hk, hc0, hkept, hJs⟩ := hrel
    have hpl : pre.length = (cameTo b k).length := by rw [← hc0, List.length_map]
    have hpk : pre.length ≤ k := by rw [hpl]; exact cameTo_le b k
    have hc := Lib.hid hc0
    have hl := Lib.hid hpl
    clear hc0 hpl
    by_cases hlt : k < b.length
    · cases ao with
      | none => have := HN.out rfl; omega
      | some a =>
        have hd := hkept _ _ (by rw [add_block]; exact HL.out a rfl (by omega)) (HC.out a rfl k _ (bools_at hlt))
        have hgd : b.getD k false = b[k] := by simp [List.getD, hlt]
        cases hbk : b[k] with
        | false =>
          rw [hbk] at hd hgd
          have E := Lib.hid (cameTo_no hgd)
          clear hbk hgd
          gi_wp2
          go_roundw
          case rel => exact ⟨k + 1, pre, by go_num, rfl, by omega, by rw [hc.out, E.out], hkept, hJs⟩
          case measure => simp [intOf]; omega
        | true =>
          rw [hbk] at hd hgd
          have E := Lib.hid (cameTo_yes hgd)
          obtain ⟨x, hx1, hx2⟩ : ∃ x : Came b, x.1.1 = pre.length ∧ x.1.2 = k := ⟨⟨(pre.length, k), hlt, hgd, hl.out⟩, rfl, rfl⟩
          have hy0 := hY pre x wr hJs (by omega)
          rw [hx1, hx2] at hy0
          obtain ⟨fn, tmps, assign, body, hy, hR⟩ := hy0
          have hX := Lib.hid hx2
          clear hbk hgd hx1 hx2
          gi_wp2
          refine hR.mono ?_
          rintro e W3 (⟨rfl, hJ3, hk3⟩ | ⟨rfl, hJx3⟩)
          · gi_wp2
            go_roundw
            case rel => exact ⟨k + 1, _, by go_num, by simp only [List.length_append, List.length_cons, List.length_nil]; go_num, by omega, by rw [List.map_append, hc.out, E.out, List.map_cons, hX.out]; rfl, kept_t hkept hk3, hJ3⟩
            case measure => simp [intOf]; omega
          · gi_wp2
            refine bodyPost_ret (results_none rfl _ _ _) rfl ?_
            exact ⟨⟨_, rfl⟩, .inr ⟨_, ⟨k + 1, by omega, by rw [List.map_append, hc.out, E.out, List.map_cons, hX.out]; rfl⟩, hJx3⟩⟩
    · gi_wp2
      go_end0
      obtain rfl : k = b.length := by omega
      exact ⟨⟨_, rfl⟩, .inl ⟨pre, hc.out, hJs⟩⟩
/-- What the closure hands over: all that came, in their order; or a beginning of them. -/
theorem arrived_stops (F : Fence) (n : Nat) (h6 : F.fn 50) (hro : F.round = none) (hn : 1 ≤ n) (Bn Nb : Nat) (ao : Option Addr) (cap : Nat) (b : List Bool) (hb : b.length ≤ 1000000) (w : World) (hBn : Bn < w.heap.size) (hNb : Nb ≤ w.heap.size)
    (hc : w.cell? ⟨Bn, 0, none⟩ = some (.slice ao b.length cap)) (hnil : ao = none → b.length = 0) (hlow : ∀ a, ao = some a → 0 < b.length → a.block < Nb)
    (hcells : ∀ a, ao = some a → ∀ j u, (bools b)[j]? = some u → w.cell? (a.add j) = some u) :
    SeqStopsK F n Tryd.prog 50 #[.pointer (some ⟨Bn, 0, none⟩)] (fun x : Came b => #[Value.int .i64 (x.1.1 : Nat), Value.int .i64 (x.1.2 : Nat)]) (Kept Nb) (fun ys => ys.map (fun x => x.1.2) = cameTo b b.length) (fun pre => ∃ k, k ≤ b.length ∧ pre.map (fun x => x.1.2) = cameTo b k) (b.length + 1) w := fun l J Jx W hW _ _ hY h0 =>
  arrived1_in F n h6 hro hn l Bn Nb ao cap b hb J Jx hY W ((hW.cell (p := ⟨Bn, 0, none⟩) hBn).trans hc) hnil hlow (fun a e j u hj => (hW.cell (p := a.add j) (by rw [add_block]; have := hlow a e (by have := (List.getElem?_eq_some_iff.1 hj).1; simp [bools] at this; omega); omega)).trans (hcells a e j u hj)) h0
end Go.Proofs.YtcoegaipojnndaaDoor

