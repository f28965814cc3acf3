/-
  A region that draws its order, walked by an invariant: whichever operation comes up keeps it; over any program; conditions: those that the law states.
-/
import Derived.Test.YtcoegaipojnndaaDoorFl3
import Derived.OrdersHeld
namespace Go.Proofs.YtcoegaipojnndaaDoor
open Go.RowKit

theorem count_set (l : Array Bool) (i : Nat) (h : l.getD i true = false) : ((l.setIfInBounds i true).toList.filter (fun b => !b)).length + 1 = (l.toList.filter (fun b => !b)).length := by
  obtain ⟨l⟩ := l
  have hi : i < l.length := by
    rcases Nat.lt_or_ge i l.length with h1 | h1
    · exact h1
    · rw [Array.getD, dif_neg (by simpa using h1)] at h
      cases h
  have hv : l[i] = false := by
    rw [Array.getD, dif_pos (by simpa using hi)] at h
    exact h
  simp only [List.setIfInBounds_toArray]
  clear h
  induction l generalizing i with
  | nil => simp at hi
  | cons b l ih =>
    cases i with
    | zero =>
      simp at hv
      subst hv
      simp
    | succ i =>
      have := ih i (by simpa using hi) (by simpa using hv)
      cases b <;> simp_all
theorem wpAny_inv {P : Program} {md : Region.Mode} {ops : Array Oper} {Q : Exit → Act → World → Prop} (I : Array Bool → Act → World → Prop)
    (hstep : ∀ listed a w i, I listed a w → i ∈ Region.ready md ops listed → wpOp P ops Q i (fun a' w' => I (listed.setIfInBounds i true) a' w') a w)
    (hend : ∀ listed a w, I listed a w → Region.ready md ops listed = [] → Q .normal a w) :
    ∀ (fuel : Nat) (listed : Array Bool) (a : Act) (w : World), I listed a w → (listed.toList.filter (fun b => !b)).length ≤ fuel → wpAny P md ops Q fuel listed a w := by
  intro fuel
  induction fuel with
  | zero =>
    intro listed a w hI hc
    have hr : Region.ready md ops listed = [] := by
      rw [List.eq_nil_iff_forall_not_mem]
      intro j hj
      have h1 := (mem_ready.1 hj).1
      have h2 := count_set listed j h1
      omega
    exact ⟨hr, hend _ _ _ hI hr⟩
  | succ fuel ih =>
    intro listed a w hI hc
    refine ⟨fun hr => hend _ _ _ hI hr, fun i hi => ?_⟩
    have h1 := (mem_ready.1 hi).1
    have h2 := count_set listed i h1
    exact wpOp_mono (fun a' w' h => ih _ _ _ h (by omega)) (hstep listed a w i hI hi)
theorem wpOp_run {P : Program} {ops : Array Oper} {Q : Exit → Act → World → Prop} {i : Nat} {K : Act → World → Prop} {a : Act} {w : World} {o : Oper} (ho : ops[i]? = some o) (hg : o.guard = none) (h : o.wp P a w K Q) : wpOp P ops Q i K a w := by
  unfold wpOp
  rw [ho]
  simp only
  rw [if_pos (by simp [Region.wanted, hg])]
  exact Or.inl h
theorem getD_put (t : Array Value) (d j : Nat) (v : Value) (hd : d < t.size) : (t.setIfInBounds d v).getD j undef = if j = d then v else t.getD j undef := by
  by_cases e : j = d
  · subst e
    rw [if_pos rfl]
    simp [Array.getD, hd]
  · rw [if_neg e]
    simp only [Array.getD, Array.size_setIfInBounds]
    split
    · rename_i hj
      exact Array.getElem_setIfInBounds_ne (by simpa using hj) (Ne.symm e)
    · rfl
theorem getB_put (t : Array Bool) (d j : Nat) (hd : d < t.size) : (t.setIfInBounds d true).getD j false = if j = d then true else t.getD j false := by
  by_cases e : j = d
  · subst e
    rw [if_pos rfl]
    simp [Array.getD, hd]
  · rw [if_neg e]
    simp only [Array.getD, Array.size_setIfInBounds]
    split
    · rename_i hj
      exact Array.getElem_setIfInBounds_ne (by simpa using hj) (Ne.symm e)
    · rfl
/-- A region whose operations fill the slots from lo on, one behind the other, whichever comes up first: each one's value is what Pd says. -/
theorem region_inv {P : Program} {ops : Array Oper} {Q : Exit → Act → World → Prop} (a0 : Act) (w0 : World) (lo n : Nat) (Pd : Nat → Value → World → Prop) (hn : ops.size = n) (hsz : lo + n ≤ a0.tmps.size)
    (hops : ∀ i o, ops[i]? = some o → o.dst = some (lo + i) ∧ o.guard = none ∧ ∀ e ∈ o.after, e.on < i)
    (hmono : ∀ i v w w', Pd i v w → w.grownBy w' none → Pd i v w')
    (hstep : ∀ i o w, ops[i]? = some o → ∀ a : Act, (∀ e ∈ o.after, Region.binds .any e = true → Pd e.on (a.tmps.getD (lo + e.on) undef) w) → (∀ j, j < lo ∨ lo + n ≤ j → a.tmps.getD j undef = a0.tmps.getD j undef) → w0.grownBy w none →
      ∀ K : Act → World → Prop, (∀ v w', Pd i v w' → w.grownBy w' none → K (a.put (some (lo + i)) v) w') → o.wp P a w K Q)
    (hend : ∀ (a : Act) (w : World), a.tmps.size = a0.tmps.size → a.defers = a0.defers → (∀ j, j < lo ∨ lo + n ≤ j → a.tmps.getD j undef = a0.tmps.getD j undef) → (∀ i, i < n → Pd i (a.tmps.getD (lo + i) undef) w) → w0.grownBy w none → Q .normal a w) :
    wpAny P .any ops Q ops.size (Array.replicate ops.size false) a0 w0 := by
  refine wpAny_inv (fun listed a w => listed.size = n ∧ a.tmps.size = a0.tmps.size ∧ a.defers = a0.defers ∧ (∀ j, j < lo ∨ lo + n ≤ j → a.tmps.getD j undef = a0.tmps.getD j undef) ∧ (∀ i, listed.getD i false = true → Pd i (a.tmps.getD (lo + i) undef) w) ∧ w0.grownBy w none) ?_ ?_ _ _ _ _ ?_ ?_
  · rintro listed a w i ⟨h1, h2, h3, h4, h5, h6⟩ hi
    obtain ⟨hun, o, ho, hall⟩ := mem_ready.1 hi
    obtain ⟨hdst, hg, _⟩ := hops i o ho
    have hin : i < n := by rw [← hn]; exact (Array.getElem?_eq_some_iff.1 ho).1
    refine wpOp_run ho hg (hstep i o w ho a (fun e he hb => h5 _ (hall e he hb)) h4 h6 _ ?_)
    intro v w' hv hgw
    refine ⟨by simpa using h1, by simpa [Act.put] using h2, h3, fun j hj => ?_, fun k hk => ?_, gb_trans h6 hgw⟩
    · show (a.tmps.setIfInBounds (lo + i) v).getD j undef = _
      rw [getD_put _ _ _ _ (by omega), if_neg (by omega)]
      exact h4 j hj
    · show Pd k ((a.tmps.setIfInBounds (lo + i) v).getD (lo + k) undef) w'
      rw [getD_put _ _ _ _ (by omega)]
      rw [getB_put _ _ _ (by omega)] at hk
      by_cases e : k = i
      · subst e; rw [if_pos rfl]; exact hv
      · rw [if_neg (by omega)]
        rw [if_neg e] at hk
        exact hmono _ _ _ _ (h5 k hk) hgw
  · rintro listed a w ⟨h1, h2, h3, h4, h5, h6⟩ hr
    refine hend a w h2 h3 h4 (fun i hi => ?_) h6
    have key : ∀ m i, i < m → i < n → listed.getD i false = true := by
      intro m
      induction m with
      | zero => intro i h; omega
      | succ m ih =>
        intro i him hin
        cases hb : listed.getD i false with
        | true => rfl
        | false =>
          exfalso
          have hi2 : i < ops.size := by omega
          have hmem : i ∈ Region.ready .any ops listed := by
            refine mem_ready.2 ⟨?_, ops[i], Array.getElem?_eq_getElem hi2, fun e he _ => ?_⟩
            · rw [Array.getD, dif_pos (by omega)] at hb ⊢; exact hb
            · have := (hops i _ (Array.getElem?_eq_getElem hi2)).2.2 e he
              exact ih e.on (by omega) (by omega)
          rw [hr] at hmem
          cases hmem
    exact h5 i (key (i + 1) i (by omega) hi)
  · refine ⟨by simpa using hn, rfl, rfl, fun _ _ => rfl, fun i hi => ?_, gb_refl _ _⟩
    simp [Array.getD] at hi
  · simp
end Go.Proofs.YtcoegaipojnndaaDoor

