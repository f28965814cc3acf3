/-
  Which writes came, by the document's own answer (foyerref04.Came), and whether a fate may be (May), over this seat's translation; conditions: the numbers fit their kinds, the slices read as lists.
-/
import Derived.Test.YtcoegaipojnndaaDoorFr1
namespace Go.Proofs.YtcoegaipojnndaaDoor
open Go.RowKit

/-- The numbers below k of those that came. -/
def cameTo (l : List Bool) (k : Nat) : List Nat := (List.range k).filter fun i => l.getD i false
theorem cameTo_yes {l : List Bool} {k : Nat} (h : l.getD k false = true) : cameTo l (k + 1) = cameTo l k ++ [k] := by
  unfold cameTo
  rw [List.range_succ, List.filter_append, List.filter_cons, if_pos h]
  rfl
theorem cameTo_no {l : List Bool} {k : Nat} (h : l.getD k false = false) : cameTo l (k + 1) = cameTo l k := by
  unfold cameTo
  rw [List.range_succ, List.filter_append, List.filter_cons, if_neg (by rw [h]; decide)]
  simp
theorem cameTo_le (l : List Bool) (k : Nat) : (cameTo l k).length ≤ k := by
  unfold cameTo
  have := List.length_filter_le (fun i => l.getD i false) (List.range k)
  simpa using this
theorem intsC_snoc (l : List Nat) (n : Nat) : intsC (l ++ [n]) = intsC l ++ [.int .i64 (n : Nat)] := by simp [intsC]
theorem Tryd.infoInt : (Tryd.prog.info? 3).map (fun i => (i.zero, i.size, i.bytes)) = some (some (.int .i64 0), 1, 8) := by kernel_rfl
theorem one_int (n : Int) : ∀ u ∈ [Value.int .i64 n], u.oneCell' = true := by intro u hu; simp at hu; subst hu; rfl
def CameGot (w : World) (l : List Bool) (e : Ending) (w' : World) : Prop := ∃ v, e = .returned v ∧ Nts w' v (cameTo l l.length) ∧ w.grownBy w' none
def CameRel (w wr : World) (l : List Bool) (k : Nat) (v3 : Value) : Prop :=
  wr.ownsRow (w.heap.size + 1) 3 1 v3 (cameTo l k).length (intsC (cameTo l k)) ∧ w.grownBy wr none
theorem camerel_form {w wr : World} {l : List Bool} {k : Nat} {v3 : Value} (h : CameRel w wr l k v3) : ∃ ao cap, v3 = .slice ao (cameTo l k).length cap := by
  obtain ⟨ao, cap, rfl, _⟩ := Sl.of_owns h.1
  exact ⟨ao, cap, rfl⟩
set_option maxRecDepth 100000 in
set_option maxHeartbeats 1000000 in
theorem refCame_any (v : Value) (l : List Bool) (t a : Int) (w : World) (hv : Bls w v l) (hl : l.length ≤ 1000000) :
    Calls Tryd.prog 62 #[.agg #[v, .int .i64 t, .int .i64 a]] w (CameGot w l) := by
  obtain ⟨i0, hi, hz0, hz1, hz2⟩ := info_parts Tryd.infoInt
  obtain ⟨ao, ca, rfl, hca, _, hna, hxa⟩ := hv
  have HA := Lib.hid hxa
  have HN := Lib.hid hna
  clear hxa hna
  go_enter Tryd.func62, Tryd.ntmps62
  go_wp2
  have b0 := Blk.mk w 25 #[.slice ao l.length ca, .int .i64 t, .int .i64 a]
  have g0 := gb_alloc w (.cells #[.slice ao l.length ca, .int .i64 t, .int .i64 a] 25) none
  go_loopw [3, 4] (fun v3 v4 wr => ∃ k : Nat, k ≤ l.length ∧ v4 = .int .i64 k ∧ Blk wr w.heap.size 25 #[.slice ao l.length ca, .int .i64 t, .int .i64 a] ∧ CameRel w wr l k v3) (fun _ v _ => l.length - (intOf v).toNat)
  case atStart => exact ⟨0, by omega, rfl, b0, World.ownsRow_nil _ _ _ _, g0⟩
  case round =>
    obtain ⟨k, hk, rfl, bf, hr⟩ := hrel
    obtain ⟨ao3, cap3, rfl⟩ := camerel_form hr
    obtain ⟨own, hg⟩ := hr
    have c0 := bf.cell 0 rfl
    have hlk := cameTo_le l k
    clear b0 g0
    by_cases hlt : k < l.length
    · cases ao with
      | none => have := (HN.out rfl).1; omega
      | some x =>
        have d0 := hg.cell (HA.out x rfl k _ (bools_at hlt)) (by simp)
        have hgd : l.getD k false = l[k] := by simp [List.getD, hlt]
        cases hb : l[k] with
        | false =>
          rw [hb] at d0 hgd
          have E := Lib.hid (cameTo_no hgd)
          clear hb hgd
          go_wp2
          go_roundw
          case rel => exact ⟨k + 1, by omega, by go_num, bf, by rw [E.out]; exact own, hg⟩
          case measure => simp [intOf]; omega
        | true =>
          rw [hb] at d0 hgd
          have E := Lib.hid (cameTo_yes hgd)
          clear hb hgd
          go_wp2_with (at_builtin; go_must (refine wpList_append_own _ rfl _ _ 101 rfl (w.heap.size + 1) 3 i0 (.int .i64 0) 1 8 Tryd.underlying101 hi hz0 hz1 hz2 rfl (by decide) _ (cameTo l k).length _ rfl (own.alloc _) ⟨wr.heap.size, 0, none⟩ 1 1 [.int .i64 k] rfl rfl (cell_one_new _ _ _) (one_int k) (by unfold maxLen; omega) (by omega) (by have := bf.lt; simp; omega) ?_; intro v3 w3 own3 g3 _))
          have hnew : CameRel w w3 l (k + 1) v3 := ⟨owns_cast own3 (by rw [E.out]; simp) (by rw [E.out, intsC_snoc]), gb_app hg own (by omega) g3⟩
          have bf3 := blk_app bf own (by omega) g3
          clear own3 g3 own
          go_wp2
          go_roundw
          case rel => exact ⟨k + 1, by omega, by go_num, bf3, hnew⟩
          case measure => simp [intOf]; omega
    · obtain rfl : k = l.length := by omega
      go_wp2
      go_ret
      exact ⟨_, rfl, Sl.of_owns own, hg⟩
end Go.Proofs.YtcoegaipojnndaaDoor

