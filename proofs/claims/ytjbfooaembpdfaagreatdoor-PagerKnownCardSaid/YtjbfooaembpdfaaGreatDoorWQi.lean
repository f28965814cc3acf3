/-
  A drawn region by an invariant: each operation is walked once, whatever the order in which they come up; conditions: those that the law states.
-/
import Derived.OrdersHeld
import Derived.Deep.RegionHeld
import Derived.Lib.Hide
set_option linter.unusedSimpArgs false
set_option linter.unusedVariables false
namespace Go.Proofs.YtjbfooaembpdfaaGreatDoor.R8
open Go.RowKit

/-- What has not come up yet. -/
def left (n : Nat) (listed : Array Bool) : List Nat := (List.range n).filter fun j => !listed.getD j true
theorem left_lt {n i : Nat} {listed : Array Bool} (hi : listed.getD i true = false) (hn : i < n) : (left n (listed.setIfInBounds i true)).length < (left n listed).length := by
  have h1 : left n (listed.setIfInBounds i true) = (left n listed).filter fun j => j != i := by
    unfold left
    rw [List.filter_filter]
    refine List.filter_congr fun j _ => ?_
    by_cases hj : j = i
    · subst hj
      have hlt : j < listed.size := by
        rcases Nat.lt_or_ge j listed.size with h' | h'
        · exact h'
        · simp [Array.getElem?_eq_none h'] at hi
      simp [hlt]
    · rw [getD_set_ne true (Ne.symm hj)]
      simp [hj]
  rw [h1, List.length_filter_lt_length_iff_exists]
  exact ⟨i, by simp [left, hn]; simpa using hi, by simp⟩
theorem to_false (listed : Array Bool) (i : Nat) (h : listed.getD i true = true) (hi : i < listed.size) : listed.getD i false = true := by
  simp only [Array.getD_eq_getD_getElem?, Array.getElem?_eq_getElem hi, Option.getD_some] at h ⊢
  exact h
section
variable {P : Program} {ops : Array Oper} {Q : Exit → Act → World → Prop} {md : Region.Mode} {S : World → Prop} {I : Array Bool → Act → World → Prop}
def StepsI (P : Program) (md : Region.Mode) (ops : Array Oper) (Q : Exit → Act → World → Prop) (S : World → Prop) (I : Array Bool → Act → World → Prop) (rs : List Nat) : Prop :=
  ∀ i ∈ rs, ∀ listed a w, S w → I listed a w → listed.size = ops.size → listed.getD i true = false → (∀ o, ops[i]? = some o → ∀ e ∈ o.after, Region.binds md e = true → listed.getD e.on false = true) →
    wpOp P ops Q i (fun a' w' => S w' ∧ I (listed.setIfInBounds i true) a' w') a w
theorem StepsI.nil : StepsI P md ops Q S I [] := fun _ h => by cases h
theorem StepsI.cons {i : Nat} {o : Oper} {rs : List Nat} (ho : ops[i]? = some o)
    (h : ∀ listed a w, S w → I listed a w → i < listed.size → listed.getD i true = false → (∀ e ∈ o.after, Region.binds md e = true → listed.getD e.on false = true) →
      ∀ K' : Act → World → Prop, Hid (∀ a w, S w → I (listed.setIfInBounds i true) a w → K' a w) → if Region.wanted o (yielded ops a.tmps) = true then Oper.wp P o a w K' Q else K' (a.put o.dst undef) w)
    (hs : StepsI P md ops Q S I rs) : StepsI P md ops Q S I (i :: rs) := fun j hj => by
  rcases List.mem_cons.1 hj with rfl | hj
  · intro listed a w hS hI hsz hun hd
    have hlt : j < listed.size := by rw [hsz]; exact (Array.getElem?_eq_some_iff.1 ho).1
    exact wpOp_step ho (fun K' hK => h listed a w hS hI hlt hun (hd o ho) K' (Lib.hid (fun a w hS hI => hK a w ⟨hS, hI⟩)))
  · exact hs j hj
theorem wpAnyH_inv_aux {rs : List Nat} {base : Array Bool} (hrs : left ops.size base = rs) (hdag : ∀ (i : Nat) (o : Oper), ops[i]? = some o → ∀ e ∈ o.after, e.on < i)
    (steps : StepsI P md ops Q S I rs) (hend : ∀ listed a w, S w → I listed a w → (∀ i, i < ops.size → listed.getD i false = true) → Q .normal a w) :
    ∀ (fuel : Nat) (listed : Array Bool) (a : Act) (w : World), (left ops.size listed).length ≤ fuel → listed.size = ops.size → (∀ i, base.getD i true = true → listed.getD i true = true) → S w → I listed a w →
      wpAnyH P md ops Q S fuel listed a w := by
  have hready : ∀ listed : Array Bool, listed.size = ops.size → Region.ready md ops listed = [] → ∀ i, i < ops.size → listed.getD i true = true := by
    intro listed hsz hr i
    induction i using Nat.strongRecOn with
    | ind i ih =>
      intro hi
      cases hb : listed.getD i true with
      | true => rfl
      | false =>
        have hmem : i ∈ Region.ready md ops listed := by
          refine mem_ready.2 ⟨hb, ops[i], by simp [hi], fun e he _ => ?_⟩
          have hlt := hdag i ops[i] (by simp [hi]) e he
          have h1 := ih e.on hlt (by omega)
          exact to_false listed e.on h1 (by omega)
        rw [hr] at hmem
        cases hmem
  have hall : ∀ listed : Array Bool, listed.size = ops.size → (∀ i, i < ops.size → listed.getD i true = true) → ∀ i, i < ops.size → listed.getD i false = true := by
    intro listed hsz h i hi
    exact to_false listed i (h i hi) (by omega)
  intro fuel
  induction fuel with
  | zero =>
    intro listed a w hf hsz hbase hS hI
    have h0 : ∀ i, i < ops.size → listed.getD i true = true := by
      intro i hi
      cases hb : listed.getD i true with
      | true => rfl
      | false =>
        have : i ∈ left ops.size listed := by
          unfold left
          rw [List.mem_filter, List.mem_range]
          exact ⟨hi, by rw [hb]; rfl⟩
        have h1 := List.length_pos_of_mem this
        omega
    refine ⟨?_, hend listed a w hS hI (hall listed hsz h0)⟩
    rw [List.eq_nil_iff_forall_not_mem]
    intro i hi
    obtain ⟨h1, o, ho, _⟩ := mem_ready.1 hi
    rw [h0 i (Array.getElem?_eq_some_iff.1 ho).1] at h1
    cases h1
  | succ fuel ih =>
    intro listed a w hf hsz hbase hS hI
    refine ⟨fun hr => hend listed a w hS hI (hall listed hsz (hready listed hsz hr)), fun i hi => ?_⟩
    obtain ⟨h1, o, ho, h2⟩ := mem_ready.1 hi
    have hin : i < ops.size := (Array.getElem?_eq_some_iff.1 ho).1
    have hmem : i ∈ rs := by
      rw [← hrs]
      unfold left
      rw [List.mem_filter, List.mem_range]
      refine ⟨hin, ?_⟩
      cases hb : base.getD i true with
      | false => rfl
      | true => rw [hbase i hb] at h1; cases h1
    refine wpOp_mono (fun a' w' h => ⟨h.1, ih _ a' w' ?_ (by rw [Array.size_setIfInBounds]; exact hsz) ?_ h.1 h.2⟩) (steps i hmem listed a w hS hI hsz h1 (fun o' ho' e he hb => ?_))
    · have := left_lt h1 hin; omega
    · intro j hj
      by_cases hij : i = j
      · subst hij
        have : i < listed.size := by omega
        simp [this]
      · rw [getD_set_ne true hij]; exact hbase j hj
    · rw [ho] at ho'
      obtain rfl := Option.some.inj ho'
      exact h2 e he hb
/-- The law. -/
theorem wpAnyH_inv {rs : List Nat} {base : Array Bool} {fuel : Nat} {a : Act} {w : World} (hrs : left ops.size base = rs) (hfu : decide (rs.length ≤ fuel) = true) (hsz : (base.size == ops.size) = true)
    (hdag : ((List.range ops.size).all fun i => ((ops[i]?).map fun o => o.after.all fun e => decide (e.on < i)).getD true) = true) (hS : S w) (hI : I base a w)
    (steps : StepsI P md ops Q S I rs) (hend : ∀ listed a w, S w → I listed a w → (∀ i, i < ops.size → listed.getD i false = true) → Q .normal a w) :
    wpAnyH P md ops Q S fuel base a w := by
  refine wpAnyH_inv_aux hrs ?_ steps hend fuel base a w (by rw [hrs]; exact of_decide_eq_true hfu) (by simpa using hsz) (fun _ h => h) hS hI
  intro i o ho e he
  have hi : i < ops.size := (Array.getElem?_eq_some_iff.1 ho).1
  have h1 := List.all_eq_true.1 hdag i (List.mem_range.2 hi)
  rw [ho] at h1
  simp only [Option.map_some, Option.getD_some, Array.all_eq_true_iff_forall_mem, decide_eq_true_eq] at h1
  exact h1 e he
theorem off_false {listed : Array Bool} {i : Nat} (h : listed.getD i true = false) (hi : i < listed.size) (h2 : listed.getD i false = true) : False := by
  simp only [Array.getD_eq_getD_getElem?, Array.getElem?_eq_getElem hi, Option.getD_some] at h h2
  rw [h] at h2
  cases h2
theorem set_same {listed : Array Bool} {i : Nat} (h : i < listed.size) : (listed.setIfInBounds i true).getD i false = true := by simp [h]
theorem set_other {listed : Array Bool} {i j : Nat} (h : i ≠ j) : (listed.setIfInBounds i true).getD j false = listed.getD j false := getD_set_ne false h
end
end Go.Proofs.YtjbfooaembpdfaaGreatDoor.R8
