/-
  A region that draws its order and guards its operations, walked by an invariant: whichever operation comes up keeps it; and a call inside it; over any program; conditions: those that each law states.
-/
import Derived.Test.YtledflcedibfeaaDoorProg
import Derived.OrdersHeld
import Derived.Shelf.Abstract
import Derived.WalkKit
namespace Go.Proofs.YtledflcedibfeaaDoor
open Go.RowKit

theorem inv_count (l : Array Bool) (i : Nat) (h : l.getD i true = false) : ((l.setIfInBounds i true).toList.filter (fun b => !b)).length + 1 = (l.toList.filter (fun b => !b)).length := by
  obtain ⟨l⟩ := l
  have hi : i < l.length := by
    rcases Nat.lt_or_ge i l.length with h1 | h1
    · exact h1
    · rw [Array.getD, dif_neg (by simpa using h1)] at h
      cases h
  have hv : l[i] = false := by
    rw [Array.getD, dif_pos (by simpa using hi)] at h
    exact h
  simp only [List.setIfInBounds_toArray]
  clear h
  induction l generalizing i with
  | nil => simp at hi
  | cons b l ih =>
    cases i with
    | zero =>
      simp at hv
      subst hv
      simp
    | succ i =>
      have := ih i (by simpa using hi) (by simpa using hv)
      cases b <;> simp_all
theorem inv_any {P : Program} {md : Region.Mode} {ops : Array Oper} {Q : Exit → Act → World → Prop} (I : Array Bool → Act → World → Prop)
    (hstep : ∀ listed a w i, I listed a w → i ∈ Region.ready md ops listed → wpOp P ops Q i (fun a' w' => I (listed.setIfInBounds i true) a' w') a w)
    (hend : ∀ listed a w, I listed a w → Region.ready md ops listed = [] → Q .normal a w) :
    ∀ (fuel : Nat) (listed : Array Bool) (a : Act) (w : World), I listed a w → (listed.toList.filter (fun b => !b)).length ≤ fuel → wpAny P md ops Q fuel listed a w := by
  intro fuel
  induction fuel with
  | zero =>
    intro listed a w hI hc
    have hr : Region.ready md ops listed = [] := by
      rw [List.eq_nil_iff_forall_not_mem]
      intro j hj
      have h1 := (mem_ready.1 hj).1
      have h2 := inv_count listed j h1
      omega
    exact ⟨hr, hend _ _ _ hI hr⟩
  | succ fuel ih =>
    intro listed a w hI hc
    refine ⟨fun hr => hend _ _ _ hI hr, fun i hi => ?_⟩
    have h1 := (mem_ready.1 hi).1
    have h2 := inv_count listed i h1
    exact wpOp_mono (fun a' w' h => ih _ _ _ h (by omega)) (hstep listed a w i hI hi)
theorem inv_put (t : Array Value) (d j : Nat) (v : Value) (hd : d < t.size) : (t.setIfInBounds d v).getD j undef = if j = d then v else t.getD j undef := by
  by_cases e : j = d
  · subst e
    rw [if_pos rfl]
    simp [Array.getD, hd]
  · rw [if_neg e]
    simp only [Array.getD, Array.size_setIfInBounds]
    split
    · rename_i hj
      exact Array.getElem_setIfInBounds_ne (by simpa using hj) (Ne.symm e)
    · rfl
theorem inv_putB (t : Array Bool) (d j : Nat) (hd : d < t.size) : (t.setIfInBounds d true).getD j false = if j = d then true else t.getD j false := by
  by_cases e : j = d
  · subst e
    rw [if_pos rfl]
    simp [Array.getD, hd]
  · rw [if_neg e]
    simp only [Array.getD, Array.size_setIfInBounds]
    split
    · rename_i hj
      exact Array.getElem_setIfInBounds_ne (by simpa using hj) (Ne.symm e)
    · rfl
/-- Where the i-th operation's value goes: from lo on, but the last one's. -/
def dstAt (lo m last i : Nat) : Nat := if i = m then last else lo + i
theorem dstAt_inj {lo m last : Nat} (h : last < lo) {i j : Nat} (e : dstAt lo m last i = dstAt lo m last j) : i = j := by
  unfold dstAt at e
  split at e <;> split at e <;> omega
/-- Neither of them. -/
def outAt (lo m last j : Nat) : Prop := j ≠ last ∧ (j < lo ∨ lo + m ≤ j)
theorem out_ne {lo m last j i : Nat} (h : outAt lo m last j) (hi : i ≤ m) : j ≠ dstAt lo m last i := by
  unfold outAt at h
  unfold dstAt
  split <;> omega
/-- What each operation's form must be. -/
def opsOk (lo m last : Nat) (bs : Nat → Option Bool) (l : List Oper) : Bool :=
  l.zipIdx.all fun p => decide (p.1.dst = some (dstAt lo m last p.2)) && (p.1.after.toList.all fun e => decide (e.on < p.2)) &&
    (match p.1.guard with | none => true | some (g, want) => (p.1.after.toList.any fun e => decide (e.on = g) && Region.binds .any e) && (bs g == some want))
theorem region_inv2 {P : Program} {l : List Oper} {Q : Exit → Act → World → Prop} (a0 : Act) (w0 : World) (lo m last : Nat) (bs : Nat → Option Bool) (Pd : Nat → Value → World → Prop) (hn : l.length = m + 1) (hsz : lo + m ≤ a0.tmps.size) (hlast : last < lo)
    (hops : opsOk lo m last bs l = true) (hbs : ∀ g b, bs g = some b → ∀ v w, Pd g v w → v = .bool b)
    (G : World → World → Prop) (I : World → Prop) (hmono : ∀ i v w w', Pd i v w → G w w' → Pd i v w')
    (hstep : ∀ i o w, l[i]? = some o → ∀ a : Act, (∀ e ∈ o.after, Region.binds .any e = true → Pd e.on (a.tmps.getD (dstAt lo m last e.on) undef) w) → (∀ j, outAt lo m last j → a.tmps.getD j undef = a0.tmps.getD j undef) → I w →
      ∀ K : Act → World → Prop, (∀ v w', Pd i v w' → G w w' → I w' → K (a.put o.dst v) w') → o.wp P a w K Q)
    (hend : ∀ (a : Act) (w : World), a.tmps.size = a0.tmps.size → a.defers = a0.defers → (∀ j, outAt lo m last j → a.tmps.getD j undef = a0.tmps.getD j undef) → (∀ i, i ≤ m → Pd i (a.tmps.getD (dstAt lo m last i) undef) w) → I w → Q .normal a w) (h0 : I w0) :
    wpAny P .any l.toArray Q l.toArray.size (Array.replicate l.toArray.size false) a0 w0 := by
  have hof : ∀ i o, l[i]? = some o → o.dst = some (dstAt lo m last i) ∧ (∀ e ∈ o.after, e.on < i) ∧ ∀ g want, o.guard = some (g, want) → (∃ e ∈ o.after, e.on = g ∧ Region.binds .any e = true) ∧ bs g = some want := by
    intro i o ho
    have hm : (o, i) ∈ l.zipIdx := by rw [List.mem_zipIdx_iff_getElem?]; exact ho
    have h := List.all_eq_true.1 hops _ hm
    simp only [Bool.and_eq_true, decide_eq_true_eq, List.all_eq_true] at h
    refine ⟨h.1.1, fun e he => h.1.2 e (by simpa using he), fun g want hg => ?_⟩
    have h2 := h.2
    rw [hg] at h2
    simp only [Bool.and_eq_true, List.any_eq_true, decide_eq_true_eq, beq_iff_eq] at h2
    obtain ⟨⟨e, he, h3, h4⟩, h5⟩ := h2
    exact ⟨⟨e, by simpa using he, h3, h4⟩, h5⟩
  have hdl : ∀ i, i ≤ m → dstAt lo m last i < a0.tmps.size := by intro i hi; unfold dstAt; split <;> omega
  refine inv_any (fun listed a w => listed.size = m + 1 ∧ a.tmps.size = a0.tmps.size ∧ a.defers = a0.defers ∧ (∀ j, outAt lo m last j → a.tmps.getD j undef = a0.tmps.getD j undef) ∧ (∀ i, listed.getD i false = true → i ≤ m ∧ Pd i (a.tmps.getD (dstAt lo m last i) undef) w) ∧ I w) ?_ ?_ _ _ _ _ ?_ ?_
  · rintro listed a w i ⟨h1, h2, h3, h4, h5, h6⟩ hi
    obtain ⟨hun, o, ho, hall⟩ := mem_ready.1 hi
    have ho' : l[i]? = some o := by simpa using ho
    obtain ⟨hdst, hlt, hg⟩ := hof i o ho'
    have hin : i ≤ m := by
      have := (List.getElem?_eq_some_iff.1 ho').1
      omega
    have hw : Region.wanted o (yielded l.toArray a.tmps) = true := by
      unfold Region.wanted
      cases hgd : o.guard with
      | none => rfl
      | some p =>
        obtain ⟨g, want⟩ := p
        obtain ⟨⟨e, he, rfl, hb⟩, hbw⟩ := hg g want hgd
        have hl := h5 e.on (hall e he hb)
        have hv := hbs e.on want hbw _ _ hl.2
        have hog : ∃ og, l[e.on]? = some og := by
          have : e.on < l.length := by omega
          exact ⟨_, List.getElem?_eq_getElem this⟩
        obtain ⟨og, hog⟩ := hog
        have hd := (hof e.on og hog).1
        have hts : dstAt lo m last e.on < a.tmps.size := by rw [h2]; exact hdl _ hl.1
        have hsome : a.tmps[dstAt lo m last e.on]? = some (.bool want) := by
          rw [← hv]; simp [Array.getD, hts]
        simp [yielded, hog, hd, hsome]
    unfold wpOp
    rw [ho]
    simp only
    rw [if_pos hw]
    refine Or.inl (hstep i o w ho' a (fun e he hb => (h5 _ (hall e he hb)).2) h4 h6 _ ?_)
    intro v w' hv hgw hI'
    rw [hdst]
    refine ⟨by simpa using h1, by simpa [Act.put] using h2, h3, fun j hj => ?_, fun k hk => ?_, hI'⟩
    · show (a.tmps.setIfInBounds (dstAt lo m last i) v).getD j undef = _
      rw [inv_put _ _ _ _ (by rw [h2]; exact hdl i hin), if_neg (out_ne hj hin)]
      exact h4 j hj
    · show k ≤ m ∧ Pd k ((a.tmps.setIfInBounds (dstAt lo m last i) v).getD (dstAt lo m last k) undef) w'
      rw [inv_putB _ _ _ (by omega)] at hk
      by_cases e : k = i
      · subst e
        refine ⟨hin, ?_⟩
        rw [inv_put _ _ _ _ (by rw [h2]; exact hdl k hin), if_pos rfl]; exact hv
      · rw [if_neg e] at hk
        obtain ⟨hkm, hp⟩ := h5 k hk
        refine ⟨hkm, ?_⟩
        rw [inv_put _ _ _ _ (by rw [h2]; exact hdl i hin), if_neg (fun h => e (dstAt_inj hlast h))]
        exact hmono _ _ _ _ hp hgw
  · rintro listed a w ⟨h1, h2, h3, h4, h5, h6⟩ hr
    refine hend a w h2 h3 h4 (fun i hi => ?_) h6
    have key : ∀ q i, i < q → i ≤ m → listed.getD i false = true := by
      intro q
      induction q with
      | zero => intro i h; omega
      | succ q ih =>
        intro i him hin
        cases hb : listed.getD i false with
        | true => rfl
        | false =>
          exfalso
          have hi2 : i < l.length := by omega
          have hmem : i ∈ Region.ready .any l.toArray listed := by
            refine mem_ready.2 ⟨?_, l[i], by simp [hi2], fun e he _ => ?_⟩
            · rw [Array.getD, dif_pos (by omega)] at hb ⊢; exact hb
            · have := (hof i _ (List.getElem?_eq_getElem hi2)).2.1 e he
              exact ih e.on (by omega) (by omega)
          rw [hr] at hmem
          cases hmem
    exact (h5 i (key (i + 1) i (by omega) hi)).2
  · refine ⟨by simpa using hn, rfl, rfl, fun _ _ => rfl, fun i hi => ?_, h0⟩
    simp [Array.getD] at hi
  · simp
section
variable {P : Program} {o : Oper} {a : Act} {w : World} {K : Act → World → Prop} {Q : Exit → Act → World → Prop}
/-- A call of a Go function, by its contract. -/
theorem op_calls {f : Nat} {args : Array Operand} {ts : Array TypeId} (vs : Array Value) (R : Ending → World → Prop)
    (ho : o.op = .call { callee := .value (.func f), args := args, argTypes := ts }) (hv : args.map a.eval = vs) (he : ∀ args w, (callFunc f args).run P w = .ok (.enter f args) w) (h : Calls P f vs w R) (hR : ∀ e w', R e w' → ∃ v, e = .returned v ∧ K (a.put o.dst v) w') : o.wp P a w K Q := by
  unfold Oper.wp execOp
  simp only [ho, resolve, Act.eval, invoke, Sem.run_bind]
  subst hv
  simp [go_sem, he]
  refine h.mono ?_
  intro e w' hr
  obtain ⟨v, rfl, hk⟩ := hR e w' hr
  exact hk
/-- An operation whose run is known. -/
theorem op_run (v : Value) (w' : World) (hr : (execOp a.eval o).run P w = .ok (.value v) w') (h : K (a.put o.dst v) w') : o.wp P a w K Q := by
  unfold Oper.wp
  rw [hr]
  exact h
end
end Go.Proofs.YtledflcedibfeaaDoor
