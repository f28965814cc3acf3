/-
  A region that draws its order, inside a round of a range over a function, walked as one outside of it; over any program; conditions: none of its operations is a 'defer', and the way out asked for is no running out of memory.
-/
import Derived.OrdersHeld
import Derived.OrdersIn
import Derived.OwnWalkIn
import Derived.Deep.RegionHeld3
import Derived.Test.YtliiooldlooagaaGreatDoorProg
set_option linter.unusedSimpArgs false
set_option linter.unusedVariables false
namespace Go.Proofs.YtliiooldlooagaaGreatDoor
open Go.RowKit

theorem op_round {l n : Nat} {P : Program} {o : Oper} {a : Act} {w : World} {K : Act → World → Prop} {Q : Exit → Act → World → Prop} (hd : ∀ c, o.op ≠ .defer c) (h : o.wp P a w K Q) : o.wpIn (Fence.wide.inRound l) n P a w K Q := by
  unfold Oper.wp at h
  unfold Oper.wpIn
  refine ⟨fun _ _ => trivial, ?_⟩
  rw [Oper.semAt_plain _ _ _ hd]
  generalize (execOp a.eval o).run P w = r at h ⊢
  cases r with
  | ok x w' =>
    cases x with
    | value v => exact h
    | skip => exact h
    | defer d => exact h
    | enter f args => exact ⟨(fun e => by cases e), show CallsIn Fence.wide (n - 1) P f args w' _ from callsIn_wide.2 h⟩
    | row row args => exact ⟨(fun e => by cases e), fun c cs _ => by
        obtain ⟨v, w2, r, s⟩ := (show Rows P row args w' _ from h) c cs
        exact ⟨v, w2, r, show StepsIn (Machine.fenced P Fence.wide) P _ _ from stepsIn_wide.2 s⟩⟩
    | _ => exact h.elim
  | halt x w' =>
    cases x with
    | panic v => exact h
    | _ => exact h.elim
theorem any_round {l n : Nat} {P : Program} {md : Region.Mode} {ops : Array Oper} {Q : Exit → Act → World → Prop} {S : World → Prop} (hd : ops.toList.all (fun o => match o.op with | .defer _ => false | _ => true) = true) (hL : ¬ LetsOut Q) :
    ∀ (fuel : Nat) (listed : Array Bool) (a : Act) (w : World), wpAnyH P md ops Q S fuel listed a w → wpAnyIn (Fence.wide.inRound l) n P md ops Q fuel listed a w := by
  intro fuel
  induction fuel with
  | zero => intro listed a w h; exact h
  | succ fuel ih =>
    intro listed a w h
    refine ⟨h.1, fun i hi => ?_⟩
    have h1 := h.2 i hi
    unfold wpOp at h1
    unfold wpOpIn
    cases ho : ops[i]? with
    | none => rw [ho] at h1; exact ih _ _ _ h1.2
    | some o =>
      rw [ho] at h1
      have hod : ∀ c, o.op ≠ .defer c := by
        intro c hc
        have h2 := List.all_eq_true.1 hd o (by simpa using Array.mem_of_getElem? ho)
        rw [hc] at h2
        cases h2
      simp only at h1 ⊢
      split at h1
      · next hw =>
        rw [if_pos hw]
        rcases h1 with h1 | h1
        · exact Oper.wpIn_mono (fun a' w' h => ih _ _ _ h.2) (op_round hod h1)
        · exact absurd h1.2 hL
      · next hw =>
        rw [if_neg hw]
        exact ⟨fun _ _ => trivial, ih _ _ _ h1.2⟩
theorem wpIn_region_round {l n id : Nat} {P : Program} {ops : Array Oper} {Q : Exit → Act → World → Prop} {S : World → Prop} {a : Act} {w : World} (hm : P.follows .mixedOrders = true) (hd : ops.toList.all (fun o => match o.op with | .defer _ => false | _ => true) = true)
    (hS : S w.drew) (h : S w.drew → wpAnyH P .any ops (NoPanic Q) S ops.size (Array.replicate ops.size false) a w.drew) (hL : ¬ LetsOut Q) : (Code.region id ops true).wpIn (Fence.wide.inRound l) n P Q a w := by
  refine Code.wpIn_mono (Q := NoPanic Q) NoPanic.imp ?_
  exact wpIn_region_any hm (any_round hd (fun ⟨a, w, h⟩ => hL ⟨a, w, NoPanic.imp _ _ _ h⟩) _ _ _ _ (h hS))
end Go.Proofs.YtliiooldlooagaaGreatDoor
