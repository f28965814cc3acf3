/-
  What the document's own answer of layer 4 (foyerref04) tells, its small functions, over this seat's translation; conditions: the numbers fit their kinds, the slices read as lists.
-/
import Derived.Test.YtefpnhckplcfgaaDoorGb
import Derived.WalkSpells
import Derived.WalkLawsBesides
import Derived.Maps.AppendAt
import Derived.Laws.MakeOwn
import Derived.RangeFuncBox
namespace Go.Proofs.YtefpnhckplcfgaaDoor
open Go.RowKit

/-- How many writes count. -/
def manyN (n : Int) : Nat := min n.toNat 4096
theorem manyN_le (n : Int) : manyN n ≤ 4096 := by unfold manyN; omega
theorem ret_i64 {a b : Int} (h : a = b) : Ending.returned (.int .i64 a) = .returned (.int .i64 b) := by rw [h]
theorem many_any (n : Int) (w : World) (h1 : -9223372036854775808 ≤ n) (h2 : n ≤ 9223372036854775807) :
    Calls Tryd.prog 26 #[.int .i64 n] w fun e w' => e = .returned (.int .i64 (manyN n : Nat)) ∧ w = w' := by
  rcases Int.lt_or_le n 0 with h | h
  · go_enter Tryd.func26, Tryd.ntmps26
    go_wp2
    go_ret
    exact ⟨ret_i64 (by unfold manyN; omega), rfl⟩
  · rcases Int.lt_or_le 4096 n with h3 | h3
    · go_enter Tryd.func26, Tryd.ntmps26
      go_wp2
      go_ret
      exact ⟨ret_i64 (by unfold manyN; omega), rfl⟩
    · by_cases h0 : n = 0
      · subst h0
        go_enter Tryd.func26, Tryd.ntmps26
        go_wp2
        go_ret
        exact ⟨rfl, rfl⟩
      · have h4 : 0 < n := by omega
        go_enter Tryd.func26, Tryd.ntmps26
        go_wp2
        go_ret
        exact ⟨ret_i64 (by unfold manyN; omega), rfl⟩

theorem bools_at {l : List Bool} {j : Nat} (h : j < l.length) : (bools l)[j]? = some (.bool l[j]) := by simp [bools, h]
/-- Fates of one list, one torn write, one place are alike. -/
theorem same_eq (va vb : Value) (l : List Bool) (t a : Int) (w : World) (ha : Bls w va l) (hb : Bls w vb l) (hl : l.length ≤ 9223372036854775807) :
    Calls Tryd.prog 9 #[.agg #[va, .int .i64 t, .int .i64 a], .agg #[vb, .int .i64 t, .int .i64 a]] w fun e w' => e = .returned (.bool true) ∧ w.grownBy w' none := by
  obtain ⟨ao, ca, rfl, hca, _, hna, hxa⟩ := ha
  obtain ⟨bo, cb, rfl, hcb, _, hnb, hxb⟩ := hb
  have HA := Lib.hid hxa
  have HB := Lib.hid hxb
  have HN := Lib.hid (And.intro hna hnb)
  clear hxa hxb hna hnb
  have hll : ((l.length : Int) != (l.length : Int)) = false := by simp
  have htt : (t != t) = false := by simp
  have haa : (a != a) = false := by simp
  go_enter Tryd.func9, Tryd.ntmps9
  go_wp2
  have g0 : w.grownBy ((w.alloc (.cells #[.slice ao l.length ca, .int .i64 t, .int .i64 a] 27)).alloc (.cells #[.slice bo l.length cb, .int .i64 t, .int .i64 a] 27)) none := gb_trans (gb_alloc _ _ _) (gb_alloc _ _ _)
  have b0 := (Blk.mk w 27 #[.slice ao l.length ca, .int .i64 t, .int .i64 a]).keep0 (gb_alloc _ (.cells #[.slice bo l.length cb, .int .i64 t, .int .i64 a] 27) none)
  have b1 := Blk.mk (w.alloc (.cells #[.slice ao l.length ca, .int .i64 t, .int .i64 a] 27)) 27 #[.slice bo l.length cb, .int .i64 t, .int .i64 a]
  simp only [World.size_alloc] at b1
  generalize (w.alloc (.cells #[.slice ao l.length ca, .int .i64 t, .int .i64 a] 27)).alloc (.cells #[.slice bo l.length cb, .int .i64 t, .int .i64 a] 27) = w0 at g0 b0 b1 ⊢
  clear hll htt haa
  go_loopw [5] (fun v wr => ∃ k : Nat, k ≤ l.length ∧ v = .int .i64 k ∧ w0.grownBy wr none) (fun v _ => l.length - (intOf v).toNat)
  case atStart => exact ⟨0, by omega, rfl, gb_refl _ _⟩
  case round =>
    obtain ⟨k, hk, rfl, hg⟩ := hrel
    have c0 := (b0.keep0 hg).cell 0 rfl
    have c1 := (b1.keep0 hg).cell 0 rfl
    by_cases hlt : k < l.length
    · cases ao with
      | none => have := (HN.out.1 rfl).1; omega
      | some x =>
        cases bo with
        | none => have := (HN.out.2 rfl).1; omega
        | some y =>
          have gk := gb_trans g0 hg
          have d0 := gk.cell (HA.out x rfl k _ (bools_at hlt)) (by simp)
          have d1 := gk.cell (HB.out y rfl k _ (bools_at hlt)) (by simp)
          generalize l[k] = b at d0 d1
          go_wp2
          go_region
          all_goals go_wp2
          all_goals
            go_roundw
            case rel => exact ⟨k + 1, by omega, by go_num, gb_trans hg (gb_drew _ _)⟩
            case measure => simp [intOf]; omega
    · go_wp2
      go_ret
      exact ⟨rfl, gb_trans g0 hg⟩
theorem Tryd.infoBool : (Tryd.prog.info? 4).map (fun i => (i.zero, i.size, i.bytes)) = some (some (.bool false), 1, 1) := by kernel_rfl
theorem one_bool (b : Bool) : ∀ u ∈ [Value.bool b], u.oneCell' = true := by intro u hu; simp at hu; subst hu; rfl
theorem bools_snoc (l : List Bool) (b : Bool) : bools (l ++ [b]) = bools l ++ [.bool b] := by simp [bools]
/-- A fate that is being made: its box, and the row that its Came owns. -/
def Making (w wr : World) (fb rb : Nat) (came : List Bool) (torn at_ : Int) : Prop :=
  ∃ v, Blk wr fb 27 #[v, .int .i64 torn, .int .i64 at_] ∧ Blk wr rb 27 #[.slice none 0 0, .int .i64 0, .int .i64 0] ∧ wr.ownsRow (w.heap.size + 2) 4 1 v came.length (bools came) ∧ w.grownBy wr none
theorem making_form {w wr : World} {fb rb : Nat} {came : List Bool} {torn at_ : Int} (h : Making w wr fb rb came torn at_) : ∃ ao cap, Blk wr fb 27 #[.slice ao came.length cap, .int .i64 torn, .int .i64 at_] ∧ Blk wr rb 27 #[.slice none 0 0, .int .i64 0, .int .i64 0] ∧ wr.ownsRow (w.heap.size + 2) 4 1 (.slice ao came.length cap) came.length (bools came) ∧ w.grownBy wr none := by
  obtain ⟨v, h1, h2, h3, h4⟩ := h
  obtain ⟨ao, cap, rfl, _⟩ := Sl.of_owns h3
  exact ⟨ao, cap, h1, h2, h3, h4⟩
set_option maxRecDepth 100000 in
set_option maxHeartbeats 1000000 in
theorem refWhole_any (n : Int) (w : World) (h1 : -9223372036854775808 ≤ n) (h2 : n ≤ 9223372036854775807) :
    Calls Tryd.prog 13 #[.int .i64 n] w (FateGot w (List.replicate (manyN n) true) (-1) 0) := by
  obtain ⟨i0, hi, hz0, hz1, hz2⟩ := info_parts Tryd.infoBool
  have hN := manyN_le n
  go_enter Tryd.func13, Tryd.ntmps13
  go_wp2
  go_loopw [4] (fun v wr => ∃ k : Nat, k ≤ manyN n ∧ v = .int .i64 k ∧ Making w wr (w.heap.size + 1) w.heap.size (List.replicate k true) (-1) 0) (fun v _ => manyN n - (intOf v).toNat)
  case atStart =>
    refine ⟨0, by omega, rfl, .slice none 0 0, ?_, ?_, World.ownsRow_nil _ _ _ _, gb_trans (gb_alloc _ _ _) (gb_alloc _ _ _)⟩
    · have := Blk.mk (w.alloc (.cells #[.slice none 0 0, .int .i64 0, .int .i64 0] 27)) 27 #[.slice none 0 0, .int .i64 (-1), .int .i64 0]
      rw [World.size_alloc] at this
      exact this
    · exact (Blk.mk w 27 #[.slice none 0 0, .int .i64 0, .int .i64 0]).keep0 (gb_alloc _ _ _)
  case round =>
    obtain ⟨k, hk, rfl, hm⟩ := hrel
    obtain ⟨ao, cap, bf, br, own, hg⟩ := making_form hm
    clear hm
    rw [List.length_replicate] at bf own
    have c0 := bf.cell 0 rfl
    have f0 := bf.free 0
    by_cases hlt : k < manyN n
    · go_wp2_with (first
        | (go_at_call 26; (with_reducible refine (many_any n _ h1 h2).mono ?_); rintro e w' ⟨rfl, rfl⟩)
        | (at_builtin; go_must (refine wpList_append_own _ rfl _ _ 25 rfl (w.heap.size + 2) 4 i0 (.bool false) 1 1 Tryd.underlying25 hi hz0 hz1 hz2 rfl (by decide) _ k _ rfl (own.alloc _) ⟨wr.heap.size, 0, none⟩ 1 1 [.bool true] rfl rfl (cell_one_new _ _ _) (one_bool true) (by unfold maxLen; omega) (by omega) (by have := br.lt; have := bf.lt; simp; omega) ?_; intro v3 w3 own3 g3 _; obtain ⟨g4, cap4, rfl⟩ := ownsRow_succ own3; have bf3 := blk_app bf own (by omega) g3; have c3 := bf3.cell 0 rfl; have f3 := bf3.free 0)))
      have hnew : Making w (w3.setCell ⟨w.heap.size + 1, 0, none⟩ (.slice (some ⟨g4, 0, none⟩) (k + 1) cap4)) (w.heap.size + 1) w.heap.size (List.replicate (k + 1) true) (-1) 0 := by
        refine ⟨.slice (some ⟨g4, 0, none⟩) (k + 1) cap4, bf3.set 0 _, (blk_app br own (by omega) g3).keep (gb_set _ _ _ _ _) (ne_some (by omega)), ?_, gb_step (gb_app hg own (by omega) g3) (gb_set _ _ _ _ _) (by omega)⟩
        exact owns_cast (own_set own3 (by omega) _) (by simp) (by rw [List.replicate_succ', bools_snoc])
      clear own3 g3 own
      go_roundw
      case rel => exact ⟨k + 1, by omega, by go_num, hnew⟩
      case measure => simp [intOf]; omega
    · obtain rfl : k = manyN n := by omega
      have c1 := bf.cell 1 rfl
      have c2 := bf.cell 2 rfl
      have d0 := br.cell 0 rfl
      have d1 := br.cell 1 rfl
      have d2 := br.cell 2 rfl
      have e0 := br.free 0
      have e1 := br.free 1
      have e2 := br.free 2
      go_wp2_with (go_at_call 26; (with_reducible refine (many_any n _ h1 h2).mono ?_); rintro e w' ⟨rfl, rfl⟩)
      have bd := ((br.set 0 (.slice ao (manyN n) cap)).set 1 (.int .i64 (-1))).set 2 (.int .i64 0)
      have r0 := bd.cell 0 rfl
      have r1 := bd.cell 1 rfl
      have r2 := bd.cell 2 rfl
      have hfin : FateGot w (List.replicate (manyN n) true) (-1) 0 (.returned (.agg #[.slice ao (manyN n) cap, .int .i64 (-1), .int .i64 0])) (((wr.setCell ⟨w.heap.size, 0, none⟩ (.slice ao (manyN n) cap)).setCell ⟨w.heap.size, 1, none⟩ (.int .i64 (-1))).setCell ⟨w.heap.size, 2, none⟩ (.int .i64 0)) :=
        ⟨_, rfl, Sl.of_owns (owns_cast (own_set (own_set (own_set own (by omega) _) (by omega) _) (by omega) _) (by simp) rfl), gb_step (gb_step (gb_step hg (gb_set _ _ _ _ _) (by omega)) (gb_set _ _ _ _ _) (by omega)) (gb_set _ _ _ _ _) (by omega)⟩
      refine bodyPost_ret (v := .agg #[.slice ao (manyN n) cap, .int .i64 (-1), .int .i64 0]) ?_ rfl hfin
      clear hfin bd
      simp [results, Tryd.results13, go_sem, r0, r1, r2]
end Go.Proofs.YtefpnhckplcfgaaDoor
