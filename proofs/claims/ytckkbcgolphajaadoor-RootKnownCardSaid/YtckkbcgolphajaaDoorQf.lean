/-
  What the statements' own drafted answers: some root whose numbers fit, over this seat's translation; conditions: the draft's numbers fit.
-/
import Derived.Test.YtckkbcgolphajaaDoorQd
namespace Go.Proofs.YtckkbcgolphajaaDoor
open Go.RowKit

/-- A draft's cells. -/
def draftC (e s odd : Nat) (cs : List Nat) : List Value := .int .u64 (e : Nat) :: .int .u16 (s : Nat) :: (cs.map fun (c : Nat) => Value.int .u16 (c : Nat)) ++ [.int .u8 (odd : Nat)]
/-- A draft whose numbers fit. -/
def FitD (e s odd : Nat) (cs : List Nat) : Prop := e < 18446744073709551616 ∧ s < 65536 ∧ odd < 256 ∧ cs.length = 8 ∧ ∀ i, i < 8 → cs.getD i 0 < 65536
def SomeRoot (w : World) (e : Ending) (w' : World) : Prop := ∃ r : Rt, Fit r ∧ e = .returned (RV r) ∧ w.grownBy w' none
theorem set_e {W : World} {b : Nat} {r : Rt} (h : RB W b r) (hr : Fit r) (v : Nat) (hv : v < 18446744073709551616) : ∃ q : Rt, RB (W.setCell ⟨b, 0, none⟩ (.int .u64 (v : Nat))) b q ∧ Fit q :=
  ⟨⟨v, r.n, r.cs⟩, Blk.set h 0 _, hr.1, hv, hr.2.2⟩
theorem set_n {W : World} {b : Nat} {r : Rt} (h : RB W b r) (hr : Fit r) (v : Int) (hv : -9223372036854775808 ≤ v ∧ v ≤ 9223372036854775807) : ∃ q : Rt, RB (W.setCell ⟨b, 1, none⟩ (.int .i64 v)) b q ∧ Fit q :=
  ⟨⟨r.e, v, r.cs⟩, Blk.set h 1 _, hr.1, hr.2.1, hv, hr.2.2.2⟩
theorem set_c {W : World} {b : Nat} {r : Rt} (h : RB W b r) (hr : Fit r) (k : Nat) (hk : k < 8) (v : Int) (hv : -9223372036854775808 ≤ v ∧ v ≤ 9223372036854775807) : ∃ q : Rt, RB (W.setCell ⟨b, 2 + k, none⟩ (.int .i64 v)) b q ∧ Fit q ∧ q.n = r.n := by
  refine ⟨⟨r.e, r.n, r.cs.set k v⟩, ?_, ⟨by rw [List.length_set]; exact hr.1, hr.2.1, hr.2.2.1, fun i hi => ?_⟩, rfl⟩
  · have := Blk.set h (2 + k) (.int .i64 v)
    have e : (rootC r).toArray.setIfInBounds (2 + k) (.int .i64 v) = (rootC ⟨r.e, r.n, r.cs.set k v⟩).toArray := by
      rw [List.setIfInBounds_toArray]
      unfold rootC
      rw [show 2 + k = k + 1 + 1 by omega, List.set_cons_succ, List.set_cons_succ, List.map_set]
    rw [e] at this
    exact this
  · have h1 := hr.2.2.2 i hi
    show -9223372036854775808 ≤ (r.cs.set k v).getD i 0 ∧ (r.cs.set k v).getD i 0 ≤ 9223372036854775807
    rw [List.getD_eq_getElem?_getD, List.getElem?_set]
    split
    · rename_i h2
      subst h2
      rw [if_pos (by have := hr.1; omega)]
      exact hv
    · rw [← List.getD_eq_getElem?_getD]; exact h1
theorem draft_at (e s odd : Nat) (cs : List Nat) (i : Nat) (h : i < cs.length) : (draftC e s odd cs)[2 + i]? = some (.int .u16 (cs.getD i 0 : Nat)) := by
  unfold draftC
  rw [List.cons_append, List.cons_append, show 2 + i = i + 1 + 1 by omega, List.getElem?_cons_succ, List.getElem?_cons_succ, List.getElem?_append_left (by simpa using h)]
  simp [List.getD_eq_getElem?_getD, h]
theorem draft_odd (e s odd : Nat) (cs : List Nat) (h : cs.length = 8) : (draftC e s odd cs)[10]? = some (.int .u8 (odd : Nat)) := by
  unfold draftC
  rw [List.cons_append, List.cons_append, show 10 = 8 + 1 + 1 from rfl, List.getElem?_cons_succ, List.getElem?_cons_succ, List.getElem?_append_right (by simp; omega)]
  simp [h]
/-- From the last store on. -/
theorem fit_new (e : Nat) (M : Int) (he : e < 18446744073709551616) (hM : -9223372036854775808 ≤ M ∧ M ≤ 9223372036854775807) : Fit ⟨e, M, [0, 0, 0, 0, 0, 0, 0, 0]⟩ := by
  refine ⟨rfl, he, hM, fun i hi => ?_⟩
  show -9223372036854775808 ≤ ([0, 0, 0, 0, 0, 0, 0, 0] : List Int).getD i 0 ∧ ([0, 0, 0, 0, 0, 0, 0, 0] : List Int).getD i 0 ≤ 9223372036854775807
  have : i = 0 ∨ i = 1 ∨ i = 2 ∨ i = 3 ∨ i = 4 ∨ i = 5 ∨ i = 6 ∨ i = 7 := by omega
  rcases this with rfl | rfl | rfl | rfl | rfl | rfl | rfl | rfl <;> decide
set_option maxRecDepth 100000 in
set_option maxHeartbeats 4000000 in
theorem drafted_any (e s odd : Nat) (cs : List Nat) (hf : FitD e s odd cs) (w : World) : Calls Tryd.prog 9 #[.agg (draftC e s odd cs).toArray] w (SomeRoot w) := by
  obtain ⟨he, hs, ho, hl, hc⟩ := hf
  obtain ⟨w1, hw1⟩ : ∃ w1, (w.alloc (.cells (draftC e s odd cs).toArray 29)).alloc (.cells #[.int .u64 0, .int .i64 0, .int .i64 0, .int .i64 0, .int .i64 0, .int .i64 0, .int .i64 0, .int .i64 0, .int .i64 0, .int .i64 0] 25) = w1 := ⟨_, rfl⟩
  have d1 : Blk w1 w.heap.size 29 (draftC e s odd cs).toArray := by rw [← hw1]; exact Blk.keep0 (Blk.mk w _ _) (gb_alloc _ _ none)
  have z1 : RB w1 (w.heap.size + 1) zeroR := by rw [← hw1, ← World.size_alloc w (.cells (draftC e s odd cs).toArray 29)]; exact Blk.mk (w.alloc (.cells (draftC e s odd cs).toArray 29)) 25 (rootC zeroR).toArray
  have g1 : w.grownBy w1 none := by rw [← hw1]; exact gb_trans (gb_alloc _ _ none) (gb_alloc _ _ none)
  have n1 : w1.heap.size = w.heap.size + 2 := by rw [← hw1, World.size_alloc, World.size_alloc]
  have c0 : w1.cell? ⟨w.heap.size, 0, none⟩ = some (.int .u64 (e : Nat)) := Blk.cell d1 0 rfl
  have c1 : w1.cell? ⟨w.heap.size, 1, none⟩ = some (.int .u16 (s : Nat)) := Blk.cell d1 1 rfl
  have hsw : IntKind.i64.wrap (s : Int) = (s : Int) := IntWalk.i64_in _ (by omega)
  obtain ⟨M, hM⟩ : ∃ M : Int, 64 + (s : Int) % 961 = M := ⟨_, rfl⟩
  have hM1 : 64 ≤ M := by omega
  have hM2 : M ≤ 1024 := by omega
  have HE := Lib.hid he
  have HDC := Lib.hid (fun W (h : Blk W w.heap.size 29 (draftC e s odd cs).toArray) i (hi : i < 8) => Blk.cell h (2 + i) (by rw [List.getElem?_toArray]; exact draft_at e s odd cs i (by omega)))
  have HDO := Lib.hid (fun W (h : Blk W w.heap.size 29 (draftC e s odd cs).toArray) => Blk.cell h 10 (by rw [List.getElem?_toArray]; exact draft_odd e s odd cs hl))
  have HCB := Lib.hid hc
  generalize (draftC e s odd cs).toArray = C at hw1 d1 HDC HDO ⊢
  clear hc hl
  go_enter Tryd.func9, Tryd.ntmps9
  by_cases hmx : (e : Int) ≤ 1
  · go_wp2
    have r0 : RB (w1.alloc (.cells #[.int .u64 1, .int .i64 M, .int .i64 0, .int .i64 0, .int .i64 0, .int .i64 0, .int .i64 0, .int .i64 0, .int .i64 0, .int .i64 0] 25)) (w.heap.size + 2) ⟨1, M, [0, 0, 0, 0, 0, 0, 0, 0]⟩ := by rw [← n1]; exact Blk.mk w1 _ _
    have d0 := Blk.keep0 d1 (gb_alloc w1 (.cells #[.int .u64 1, .int .i64 M, .int .i64 0, .int .i64 0, .int .i64 0, .int .i64 0, .int .i64 0, .int .i64 0, .int .i64 0, .int .i64 0] 25) none)
    have z0 := RB.keep0 z1 (gb_alloc w1 (.cells #[.int .u64 1, .int .i64 M, .int .i64 0, .int .i64 0, .int .i64 0, .int .i64 0, .int .i64 0, .int .i64 0, .int .i64 0, .int .i64 0] 25) none)
    have g0 := gb_trans g1 (gb_alloc w1 (.cells #[.int .u64 1, .int .i64 M, .int .i64 0, .int .i64 0, .int .i64 0, .int .i64 0, .int .i64 0, .int .i64 0, .int .i64 0, .int .i64 0] 25) none)
    have f0 : Fit ⟨1, M, [0, 0, 0, 0, 0, 0, 0, 0]⟩ := fit_new _ _ (by first | exact HE.out | decide) (by omega)
    generalize w1.alloc (.cells #[.int .u64 1, .int .i64 M, .int .i64 0, .int .i64 0, .int .i64 0, .int .i64 0, .int .i64 0, .int .i64 0, .int .i64 0, .int .i64 0] 25) = W0 at r0 d0 z0 g0 ⊢
    clear c0 c1 hw1 d1 z1 g1 n1 hsw hM hmx
    go_loopw [4] (fun i wr => ∃ j : Nat, j ≤ 8 ∧ i = .int .i64 j ∧ (∃ q : Rt, RB wr (w.heap.size + 2) q ∧ Fit q ∧ q.n = M) ∧ Blk wr w.heap.size 29 C ∧ RB wr (w.heap.size + 1) zeroR ∧ w.grownBy wr none) (fun i _ => 9 - (intOf i).toNat)
    case atStart => exact ⟨0, by omega, rfl, ⟨_, r0, f0, rfl⟩, d0, z0, g0⟩
    case round =>
      obtain ⟨j, hj, rfl, ⟨q, r1, f1, hqn⟩, d1, z1, g1⟩ := hrel
      clear r0 f0 d0 z0 g0
      by_cases hlt : j < 8
      · have hdc := HDC.out wr d1 j hlt
        obtain ⟨c, hce⟩ : ∃ c, cs.getD j 0 = c := ⟨_, rfl⟩
        have hcb : c < 65536 := by rw [← hce]; exact HCB.out j hlt
        rw [hce] at hdc
        have hqs := r1.sectors
        rw [hqn] at hqs
        have hcw : IntKind.i64.wrap (c : Int) = (c : Int) := IntWalk.i64_in _ (by omega)
        have hmw : IntKind.i64.wrap (M - 2) = M - 2 := IntWalk.i64_in _ (by omega)
        obtain ⟨z, hz⟩ : ∃ z : Int, (c : Int) % (M - 2) = z := ⟨_, rfl⟩
        have hz1 : 0 ≤ z := by rw [← hz]; exact Int.emod_nonneg _ (by omega)
        have hz2 : z < M - 2 := by rw [← hz]; exact Int.emod_lt_of_pos _ (by omega)
        have hzt : (c : Int).tmod (M - 2) = z := by rw [Int.tmod_eq_emod_of_nonneg (by omega)]; exact hz
        have hzw : IntKind.i64.wrap z = z := IntWalk.i64_in _ (by omega)
        have hz2w : IntKind.i64.wrap (2 + z) = 2 + z := IntWalk.i64_in _ (by omega)
        have hm0 : ((M - 2) == 0) = false := by rw [beq_eq_false_iff_ne]; omega
        have hm00 : ¬ M - 2 = 0 := by omega
        have HQ := Lib.hid (And.intro r1 (And.intro f1 hqn))
        have HR := Lib.hid (And.intro d1 (And.intro z1 g1))
        clear hce r1 f1 hqn d1 z1 g1
        go_wp2
        go_region
        go_wp2
        go_loop [5, 6] (fun cv kv => ∃ (y : Int) (k : Nat), k ≤ j ∧ cv = .int .i64 y ∧ kv = .int .i64 k ∧ 0 ≤ y ∧ y ≤ 2000) (fun _ kv => 9 - (intOf kv).toNat)
        case atStart => exact ⟨_, 0, by omega, rfl, rfl, by omega, by omega⟩
        case round =>
          obtain ⟨y, k, hk, rfl, rfl, hy1, hy2⟩ := hrel
          by_cases hkl : k < j
          · have hck := HQ.out.1.chunk k (by have := HQ.out.2.1.1; omega)
            rw [Nat.add_comm k 2] at hck
            obtain ⟨d, hd⟩ : ∃ d, q.cs.getD k 0 = d := ⟨_, rfl⟩
            rw [hd] at hck
            by_cases hdy : d = y
            · have hq : (d == y) = true := by simpa using hdy
              clear hdy
              go_wp2
              go_round
              case rel => exact ⟨_, k + 1, by omega, rfl, by go_num, by omega, by omega⟩
              case measure => simp [intOf]; omega
            · have hq : (d == y) = false := by simpa using hdy
              go_wp2
              go_round
              case rel => exact ⟨_, k + 1, by omega, rfl, by go_num, by omega, by omega⟩
              case measure => simp [intOf]; omega
          · obtain rfl : k = j := by omega
            have hq1 := HQ.out.1
            have hck := hq1.chunk k (by have := HQ.out.2.1.1; omega)
            rw [Nat.add_comm k 2] at hck
            have hfr := Blk.free hq1 (2 + k)
            obtain ⟨q2, r2, f2, hq2⟩ := set_c hq1 HQ.out.2.1 k hlt y (by omega)
            have HQ2 := Lib.hid (And.intro (RB.keep0 r2 (gb_drew _ none)) (And.intro f2 (hq2.trans HQ.out.2.2)))
            have HR2 := Lib.hid (And.intro (Blk.keep0 (Blk.keep HR.out.1 (gb_set wr (w.heap.size + 2) (2 + k) none (.int .i64 y)) (ne_some (by omega))) (gb_drew _ none)) (And.intro (Blk.keep0 (Blk.keep HR.out.2.1 (gb_set wr (w.heap.size + 2) (2 + k) none (.int .i64 y)) (ne_some (by omega))) (gb_drew _ none)) (gb_trans (gb_step HR.out.2.2 (gb_set wr (w.heap.size + 2) (2 + k) none (.int .i64 y)) (by omega)) (gb_drew _ none))))
            clear hq1 r2 f2 hq2
            go_wp2
            go_roundw
            case rel => exact ⟨k + 1, by omega, by go_num, ⟨q2, HQ2.out⟩, HR2.out.1, HR2.out.2.1, HR2.out.2.2⟩
            case measure => simp [intOf]; omega
      · obtain rfl : j = 8 := by omega
        have ho1 := HDO.out wr d1
        obtain ⟨t, ht⟩ : ∃ t : Nat, odd % 16 = t := ⟨_, rfl⟩
        have hti : (odd : Int) % 16 = (t : Int) := by omega
        clear ht
        by_cases t1 : t = 1
        · subst t1
          have hck := r1.epoch
          have hfr := Blk.free r1 0
          obtain ⟨q2, r2, f2⟩ : ∃ q2 : Rt, RB (wr.setCell ⟨w.heap.size + 2, 0, none⟩ (.int .u64 0)) (w.heap.size + 2) q2 ∧ Fit q2 := (by have := set_e r1 f1 0 (by decide); exact this)
          have z2 : RB (wr.setCell ⟨w.heap.size + 2, 0, none⟩ (.int .u64 0)) (w.heap.size + 1) zeroR := Blk.keep z1 (gb_set wr (w.heap.size + 2) 0 none (.int .u64 0)) (ne_some (by omega))
          have g2 : w.grownBy (wr.setCell ⟨w.heap.size + 2, 0, none⟩ (.int .u64 0)) none := gb_step g1 (gb_set wr (w.heap.size + 2) 0 none (.int .u64 0)) (by omega)
          obtain ⟨W2, hW2⟩ : ∃ W2, wr.setCell ⟨w.heap.size + 2, 0, none⟩ (.int .u64 0) = W2 := ⟨_, rfl⟩
          rw [hW2] at r2 z2 g2
          clear r1 f1 hqn d1 z1 g1
          have HIq := Lib.hid (root_info q2 f2.1)
          have HOq := Lib.hid (root_one q2)
          have HSq := Lib.hid (show 10 = (rootC q2).toArray.size by rw [List.size_toArray, rootC_length q2 f2.1])
          obtain ⟨D, hD⟩ : ∃ D, (rootC q2).toArray = D := ⟨_, rfl⟩
          have hn2 : W2.heap[w.heap.size + 2]? = some (.cells D 25 (0, 0)) := by rw [← hD]; exact r2
          have hz2 : W2.heap[w.heap.size + 1]? = some (.cells (rootC zeroR).toArray 25 (0, 0)) := z2
          have hset := set_root z2 q2
          rw [hD] at HIq HOq HSq hset
          have HD2 := Lib.hid hD
          have HF2 := Lib.hid f2
          have HG2 := Lib.hid g2
          clear hD f2 g2 z2 r2
          go_wp2_with (first
            | (refine wpList_load_row rfl 25 (.tmp 3) rfl (w.heap.size + 2) rfl 25 D (0, 0) _ hn2 Tryd.underlying25 rfl HIq.out ?_)
            | (refine wpList_store_row rfl 25 (.tmp 2) (.tmp 78) rfl (w.heap.size + 1) D rfl rfl 25 _ hz2 HIq.out HSq.out HOq.out ?_)
            | fail)
          refine bodyPost_ret (results_cell_row rfl _ _ (w.heap.size + 1) 25 D (0, 0) _ rfl (by have := hset; unfold RB at this; rw [HD2.out] at this; exact this) Tryd.underlying25 rfl HIq.out) rfl ⟨q2, HF2.out, by unfold RV; rw [HD2.out], gb_step HG2.out (gb_setRow _ _ _) (by omega)⟩
        by_cases t2 : t = 2
        · subst t2
          have hck := r1.sectors
          have hfr := Blk.free r1 1
          obtain ⟨q2, r2, f2⟩ : ∃ q2 : Rt, RB (wr.setCell ⟨w.heap.size + 2, 1, none⟩ (.int .i64 63)) (w.heap.size + 2) q2 ∧ Fit q2 := (by have := set_n r1 f1 63 (by decide); exact this)
          have z2 : RB (wr.setCell ⟨w.heap.size + 2, 1, none⟩ (.int .i64 63)) (w.heap.size + 1) zeroR := Blk.keep z1 (gb_set wr (w.heap.size + 2) 1 none (.int .i64 63)) (ne_some (by omega))
          have g2 : w.grownBy (wr.setCell ⟨w.heap.size + 2, 1, none⟩ (.int .i64 63)) none := gb_step g1 (gb_set wr (w.heap.size + 2) 1 none (.int .i64 63)) (by omega)
          obtain ⟨W2, hW2⟩ : ∃ W2, wr.setCell ⟨w.heap.size + 2, 1, none⟩ (.int .i64 63) = W2 := ⟨_, rfl⟩
          rw [hW2] at r2 z2 g2
          clear r1 f1 hqn d1 z1 g1
          have HIq := Lib.hid (root_info q2 f2.1)
          have HOq := Lib.hid (root_one q2)
          have HSq := Lib.hid (show 10 = (rootC q2).toArray.size by rw [List.size_toArray, rootC_length q2 f2.1])
          obtain ⟨D, hD⟩ : ∃ D, (rootC q2).toArray = D := ⟨_, rfl⟩
          have hn2 : W2.heap[w.heap.size + 2]? = some (.cells D 25 (0, 0)) := by rw [← hD]; exact r2
          have hz2 : W2.heap[w.heap.size + 1]? = some (.cells (rootC zeroR).toArray 25 (0, 0)) := z2
          have hset := set_root z2 q2
          rw [hD] at HIq HOq HSq hset
          have HD2 := Lib.hid hD
          have HF2 := Lib.hid f2
          have HG2 := Lib.hid g2
          clear hD f2 g2 z2 r2
          go_wp2_with (first
            | (refine wpList_load_row rfl 25 (.tmp 3) rfl (w.heap.size + 2) rfl 25 D (0, 0) _ hn2 Tryd.underlying25 rfl HIq.out ?_)
            | (refine wpList_store_row rfl 25 (.tmp 2) (.tmp 78) rfl (w.heap.size + 1) D rfl rfl 25 _ hz2 HIq.out HSq.out HOq.out ?_)
            | fail)
          refine bodyPost_ret (results_cell_row rfl _ _ (w.heap.size + 1) 25 D (0, 0) _ rfl (by have := hset; unfold RB at this; rw [HD2.out] at this; exact this) Tryd.underlying25 rfl HIq.out) rfl ⟨q2, HF2.out, by unfold RV; rw [HD2.out], gb_step HG2.out (gb_setRow _ _ _) (by omega)⟩
        by_cases t3 : t = 3
        · subst t3
          have hck := r1.sectors
          have hfr := Blk.free r1 1
          obtain ⟨q2, r2, f2⟩ : ∃ q2 : Rt, RB (wr.setCell ⟨w.heap.size + 2, 1, none⟩ (.int .i64 1025)) (w.heap.size + 2) q2 ∧ Fit q2 := (by have := set_n r1 f1 1025 (by decide); exact this)
          have z2 : RB (wr.setCell ⟨w.heap.size + 2, 1, none⟩ (.int .i64 1025)) (w.heap.size + 1) zeroR := Blk.keep z1 (gb_set wr (w.heap.size + 2) 1 none (.int .i64 1025)) (ne_some (by omega))
          have g2 : w.grownBy (wr.setCell ⟨w.heap.size + 2, 1, none⟩ (.int .i64 1025)) none := gb_step g1 (gb_set wr (w.heap.size + 2) 1 none (.int .i64 1025)) (by omega)
          obtain ⟨W2, hW2⟩ : ∃ W2, wr.setCell ⟨w.heap.size + 2, 1, none⟩ (.int .i64 1025) = W2 := ⟨_, rfl⟩
          rw [hW2] at r2 z2 g2
          clear r1 f1 hqn d1 z1 g1
          have HIq := Lib.hid (root_info q2 f2.1)
          have HOq := Lib.hid (root_one q2)
          have HSq := Lib.hid (show 10 = (rootC q2).toArray.size by rw [List.size_toArray, rootC_length q2 f2.1])
          obtain ⟨D, hD⟩ : ∃ D, (rootC q2).toArray = D := ⟨_, rfl⟩
          have hn2 : W2.heap[w.heap.size + 2]? = some (.cells D 25 (0, 0)) := by rw [← hD]; exact r2
          have hz2 : W2.heap[w.heap.size + 1]? = some (.cells (rootC zeroR).toArray 25 (0, 0)) := z2
          have hset := set_root z2 q2
          rw [hD] at HIq HOq HSq hset
          have HD2 := Lib.hid hD
          have HF2 := Lib.hid f2
          have HG2 := Lib.hid g2
          clear hD f2 g2 z2 r2
          go_wp2_with (first
            | (refine wpList_load_row rfl 25 (.tmp 3) rfl (w.heap.size + 2) rfl 25 D (0, 0) _ hn2 Tryd.underlying25 rfl HIq.out ?_)
            | (refine wpList_store_row rfl 25 (.tmp 2) (.tmp 78) rfl (w.heap.size + 1) D rfl rfl 25 _ hz2 HIq.out HSq.out HOq.out ?_)
            | fail)
          refine bodyPost_ret (results_cell_row rfl _ _ (w.heap.size + 1) 25 D (0, 0) _ rfl (by have := hset; unfold RB at this; rw [HD2.out] at this; exact this) Tryd.underlying25 rfl HIq.out) rfl ⟨q2, HF2.out, by unfold RV; rw [HD2.out], gb_step HG2.out (gb_setRow _ _ _) (by omega)⟩
        by_cases t4 : t = 4
        · subst t4
          have hck := r1.chunk 3 (by have := f1.1; omega)
          have hfr := Blk.free r1 5
          obtain ⟨q2, r2, f2⟩ : ∃ q2 : Rt, RB (wr.setCell ⟨w.heap.size + 2, 5, none⟩ (.int .i64 1)) (w.heap.size + 2) q2 ∧ Fit q2 := (by have := set_c r1 f1 3 (by decide) (1) (by omega); obtain ⟨q2, a, b, _⟩ := this; exact ⟨q2, a, b⟩)
          have z2 : RB (wr.setCell ⟨w.heap.size + 2, 5, none⟩ (.int .i64 1)) (w.heap.size + 1) zeroR := Blk.keep z1 (gb_set wr (w.heap.size + 2) 5 none (.int .i64 1)) (ne_some (by omega))
          have g2 : w.grownBy (wr.setCell ⟨w.heap.size + 2, 5, none⟩ (.int .i64 1)) none := gb_step g1 (gb_set wr (w.heap.size + 2) 5 none (.int .i64 1)) (by omega)
          obtain ⟨W2, hW2⟩ : ∃ W2, wr.setCell ⟨w.heap.size + 2, 5, none⟩ (.int .i64 1) = W2 := ⟨_, rfl⟩
          rw [hW2] at r2 z2 g2
          clear r1 f1 hqn d1 z1 g1
          have HIq := Lib.hid (root_info q2 f2.1)
          have HOq := Lib.hid (root_one q2)
          have HSq := Lib.hid (show 10 = (rootC q2).toArray.size by rw [List.size_toArray, rootC_length q2 f2.1])
          obtain ⟨D, hD⟩ : ∃ D, (rootC q2).toArray = D := ⟨_, rfl⟩
          have hn2 : W2.heap[w.heap.size + 2]? = some (.cells D 25 (0, 0)) := by rw [← hD]; exact r2
          have hz2 : W2.heap[w.heap.size + 1]? = some (.cells (rootC zeroR).toArray 25 (0, 0)) := z2
          have hset := set_root z2 q2
          rw [hD] at HIq HOq HSq hset
          have HD2 := Lib.hid hD
          have HF2 := Lib.hid f2
          have HG2 := Lib.hid g2
          clear hD f2 g2 z2 r2
          go_wp2_with (first
            | (refine wpList_load_row rfl 25 (.tmp 3) rfl (w.heap.size + 2) rfl 25 D (0, 0) _ hn2 Tryd.underlying25 rfl HIq.out ?_)
            | (refine wpList_store_row rfl 25 (.tmp 2) (.tmp 78) rfl (w.heap.size + 1) D rfl rfl 25 _ hz2 HIq.out HSq.out HOq.out ?_)
            | fail)
          refine bodyPost_ret (results_cell_row rfl _ _ (w.heap.size + 1) 25 D (0, 0) _ rfl (by have := hset; unfold RB at this; rw [HD2.out] at this; exact this) Tryd.underlying25 rfl HIq.out) rfl ⟨q2, HF2.out, by unfold RV; rw [HD2.out], gb_step HG2.out (gb_setRow _ _ _) (by omega)⟩
        by_cases t5 : t = 5
        · subst t5
          have hqs := r1.sectors
          rw [hqn] at hqs
          have hck := r1.chunk 7 (by have := f1.1; omega)
          have hfr := Blk.free r1 9
          obtain ⟨q2, r2, f2⟩ : ∃ q2 : Rt, RB (wr.setCell ⟨w.heap.size + 2, 9, none⟩ (.int .i64 M)) (w.heap.size + 2) q2 ∧ Fit q2 := (by have := set_c r1 f1 7 (by decide) (M) (by omega); obtain ⟨q2, a, b, _⟩ := this; exact ⟨q2, a, b⟩)
          have z2 : RB (wr.setCell ⟨w.heap.size + 2, 9, none⟩ (.int .i64 M)) (w.heap.size + 1) zeroR := Blk.keep z1 (gb_set wr (w.heap.size + 2) 9 none (.int .i64 M)) (ne_some (by omega))
          have g2 : w.grownBy (wr.setCell ⟨w.heap.size + 2, 9, none⟩ (.int .i64 M)) none := gb_step g1 (gb_set wr (w.heap.size + 2) 9 none (.int .i64 M)) (by omega)
          obtain ⟨W2, hW2⟩ : ∃ W2, wr.setCell ⟨w.heap.size + 2, 9, none⟩ (.int .i64 M) = W2 := ⟨_, rfl⟩
          rw [hW2] at r2 z2 g2
          clear r1 f1 hqn d1 z1 g1
          have HIq := Lib.hid (root_info q2 f2.1)
          have HOq := Lib.hid (root_one q2)
          have HSq := Lib.hid (show 10 = (rootC q2).toArray.size by rw [List.size_toArray, rootC_length q2 f2.1])
          obtain ⟨D, hD⟩ : ∃ D, (rootC q2).toArray = D := ⟨_, rfl⟩
          have hn2 : W2.heap[w.heap.size + 2]? = some (.cells D 25 (0, 0)) := by rw [← hD]; exact r2
          have hz2 : W2.heap[w.heap.size + 1]? = some (.cells (rootC zeroR).toArray 25 (0, 0)) := z2
          have hset := set_root z2 q2
          rw [hD] at HIq HOq HSq hset
          have HD2 := Lib.hid hD
          have HF2 := Lib.hid f2
          have HG2 := Lib.hid g2
          clear hD f2 g2 z2 r2
          go_wp2_with (first
            | (refine wpList_load_row rfl 25 (.tmp 3) rfl (w.heap.size + 2) rfl 25 D (0, 0) _ hn2 Tryd.underlying25 rfl HIq.out ?_)
            | (refine wpList_store_row rfl 25 (.tmp 2) (.tmp 78) rfl (w.heap.size + 1) D rfl rfl 25 _ hz2 HIq.out HSq.out HOq.out ?_)
            | fail)
          refine bodyPost_ret (results_cell_row rfl _ _ (w.heap.size + 1) 25 D (0, 0) _ rfl (by have := hset; unfold RB at this; rw [HD2.out] at this; exact this) Tryd.underlying25 rfl HIq.out) rfl ⟨q2, HF2.out, by unfold RV; rw [HD2.out], gb_step HG2.out (gb_setRow _ _ _) (by omega)⟩
        by_cases t6 : t = 6
        · subst t6
          have hd0 := r1.chunk 0 (by have := f1.1; omega)
          have hdb := f1.2.2.2 0 (by decide)
          obtain ⟨d, hd⟩ : ∃ d, q.cs.getD 0 0 = d := ⟨_, rfl⟩
          rw [hd] at hd0 hdb
          clear hd
          have hck := r1.chunk 1 (by have := f1.1; omega)
          have hfr := Blk.free r1 3
          obtain ⟨q2, r2, f2⟩ : ∃ q2 : Rt, RB (wr.setCell ⟨w.heap.size + 2, 3, none⟩ (.int .i64 d)) (w.heap.size + 2) q2 ∧ Fit q2 := (by have := set_c r1 f1 1 (by decide) (d) (by omega); obtain ⟨q2, a, b, _⟩ := this; exact ⟨q2, a, b⟩)
          have z2 : RB (wr.setCell ⟨w.heap.size + 2, 3, none⟩ (.int .i64 d)) (w.heap.size + 1) zeroR := Blk.keep z1 (gb_set wr (w.heap.size + 2) 3 none (.int .i64 d)) (ne_some (by omega))
          have g2 : w.grownBy (wr.setCell ⟨w.heap.size + 2, 3, none⟩ (.int .i64 d)) none := gb_step g1 (gb_set wr (w.heap.size + 2) 3 none (.int .i64 d)) (by omega)
          obtain ⟨W2, hW2⟩ : ∃ W2, wr.setCell ⟨w.heap.size + 2, 3, none⟩ (.int .i64 d) = W2 := ⟨_, rfl⟩
          rw [hW2] at r2 z2 g2
          clear r1 f1 hqn d1 z1 g1
          have HIq := Lib.hid (root_info q2 f2.1)
          have HOq := Lib.hid (root_one q2)
          have HSq := Lib.hid (show 10 = (rootC q2).toArray.size by rw [List.size_toArray, rootC_length q2 f2.1])
          obtain ⟨D, hD⟩ : ∃ D, (rootC q2).toArray = D := ⟨_, rfl⟩
          have hn2 : W2.heap[w.heap.size + 2]? = some (.cells D 25 (0, 0)) := by rw [← hD]; exact r2
          have hz2 : W2.heap[w.heap.size + 1]? = some (.cells (rootC zeroR).toArray 25 (0, 0)) := z2
          have hset := set_root z2 q2
          rw [hD] at HIq HOq HSq hset
          have HD2 := Lib.hid hD
          have HF2 := Lib.hid f2
          have HG2 := Lib.hid g2
          clear hD f2 g2 z2 r2
          go_wp2_with (first
            | (refine wpList_load_row rfl 25 (.tmp 3) rfl (w.heap.size + 2) rfl 25 D (0, 0) _ hn2 Tryd.underlying25 rfl HIq.out ?_)
            | (refine wpList_store_row rfl 25 (.tmp 2) (.tmp 78) rfl (w.heap.size + 1) D rfl rfl 25 _ hz2 HIq.out HSq.out HOq.out ?_)
            | fail)
          refine bodyPost_ret (results_cell_row rfl _ _ (w.heap.size + 1) 25 D (0, 0) _ rfl (by have := hset; unfold RB at this; rw [HD2.out] at this; exact this) Tryd.underlying25 rfl HIq.out) rfl ⟨q2, HF2.out, by unfold RV; rw [HD2.out], gb_step HG2.out (gb_setRow _ _ _) (by omega)⟩
        by_cases t7 : t = 7
        · subst t7
          have hck := r1.chunk 2 (by have := f1.1; omega)
          have hfr := Blk.free r1 4
          obtain ⟨q2, r2, f2⟩ : ∃ q2 : Rt, RB (wr.setCell ⟨w.heap.size + 2, 4, none⟩ (.int .i64 (-1))) (w.heap.size + 2) q2 ∧ Fit q2 := (by have := set_c r1 f1 2 (by decide) (-1) (by omega); obtain ⟨q2, a, b, _⟩ := this; exact ⟨q2, a, b⟩)
          have z2 : RB (wr.setCell ⟨w.heap.size + 2, 4, none⟩ (.int .i64 (-1))) (w.heap.size + 1) zeroR := Blk.keep z1 (gb_set wr (w.heap.size + 2) 4 none (.int .i64 (-1))) (ne_some (by omega))
          have g2 : w.grownBy (wr.setCell ⟨w.heap.size + 2, 4, none⟩ (.int .i64 (-1))) none := gb_step g1 (gb_set wr (w.heap.size + 2) 4 none (.int .i64 (-1))) (by omega)
          obtain ⟨W2, hW2⟩ : ∃ W2, wr.setCell ⟨w.heap.size + 2, 4, none⟩ (.int .i64 (-1)) = W2 := ⟨_, rfl⟩
          rw [hW2] at r2 z2 g2
          clear r1 f1 hqn d1 z1 g1
          have HIq := Lib.hid (root_info q2 f2.1)
          have HOq := Lib.hid (root_one q2)
          have HSq := Lib.hid (show 10 = (rootC q2).toArray.size by rw [List.size_toArray, rootC_length q2 f2.1])
          obtain ⟨D, hD⟩ : ∃ D, (rootC q2).toArray = D := ⟨_, rfl⟩
          have hn2 : W2.heap[w.heap.size + 2]? = some (.cells D 25 (0, 0)) := by rw [← hD]; exact r2
          have hz2 : W2.heap[w.heap.size + 1]? = some (.cells (rootC zeroR).toArray 25 (0, 0)) := z2
          have hset := set_root z2 q2
          rw [hD] at HIq HOq HSq hset
          have HD2 := Lib.hid hD
          have HF2 := Lib.hid f2
          have HG2 := Lib.hid g2
          clear hD f2 g2 z2 r2
          go_wp2_with (first
            | (refine wpList_load_row rfl 25 (.tmp 3) rfl (w.heap.size + 2) rfl 25 D (0, 0) _ hn2 Tryd.underlying25 rfl HIq.out ?_)
            | (refine wpList_store_row rfl 25 (.tmp 2) (.tmp 78) rfl (w.heap.size + 1) D rfl rfl 25 _ hz2 HIq.out HSq.out HOq.out ?_)
            | fail)
          refine bodyPost_ret (results_cell_row rfl _ _ (w.heap.size + 1) 25 D (0, 0) _ rfl (by have := hset; unfold RB at this; rw [HD2.out] at this; exact this) Tryd.underlying25 rfl HIq.out) rfl ⟨q2, HF2.out, by unfold RV; rw [HD2.out], gb_step HG2.out (gb_setRow _ _ _) (by omega)⟩
        have e1 : ((t : Int) == 1) = false := by rw [beq_eq_false_iff_ne]; omega
        have e2 : ((t : Int) == 2) = false := by rw [beq_eq_false_iff_ne]; omega
        have e3 : ((t : Int) == 3) = false := by rw [beq_eq_false_iff_ne]; omega
        have e4 : ((t : Int) == 4) = false := by rw [beq_eq_false_iff_ne]; omega
        have e5 : ((t : Int) == 5) = false := by rw [beq_eq_false_iff_ne]; omega
        have e6 : ((t : Int) == 6) = false := by rw [beq_eq_false_iff_ne]; omega
        have e7 : ((t : Int) == 7) = false := by rw [beq_eq_false_iff_ne]; omega
        obtain ⟨q2, hq2⟩ : ∃ q2, q = q2 := ⟨_, rfl⟩
        subst hq2
        have r2 := r1
        have f2 := f1
        have z2 := z1
        have g2 := g1
        clear r1 f1 hqn d1 z1 g1 t1 t2 t3 t4 t5 t6 t7
        have HIq := Lib.hid (root_info q f2.1)
        have HOq := Lib.hid (root_one q)
        have HSq := Lib.hid (show 10 = (rootC q).toArray.size by rw [List.size_toArray, rootC_length q f2.1])
        obtain ⟨D, hD⟩ : ∃ D, (rootC q).toArray = D := ⟨_, rfl⟩
        have hn2 : wr.heap[w.heap.size + 2]? = some (.cells D 25 (0, 0)) := by rw [← hD]; exact r2
        have hz2 : wr.heap[w.heap.size + 1]? = some (.cells (rootC zeroR).toArray 25 (0, 0)) := z2
        have hset := set_root z2 q
        rw [hD] at HIq HOq HSq hset
        have HD2 := Lib.hid hD
        have HF2 := Lib.hid f2
        have HG2 := Lib.hid g2
        clear hD f2 g2 z2 r2
        go_wp2_with (first
          | (refine wpList_load_row rfl 25 (.tmp 3) rfl (w.heap.size + 2) rfl 25 D (0, 0) _ hn2 Tryd.underlying25 rfl HIq.out ?_)
          | (refine wpList_store_row rfl 25 (.tmp 2) (.tmp 78) rfl (w.heap.size + 1) D rfl rfl 25 _ hz2 HIq.out HSq.out HOq.out ?_)
          | fail)
        refine bodyPost_ret (results_cell_row rfl _ _ (w.heap.size + 1) 25 D (0, 0) _ rfl (by have := hset; unfold RB at this; rw [HD2.out] at this; exact this) Tryd.underlying25 rfl HIq.out) rfl ⟨q, HF2.out, by unfold RV; rw [HD2.out], gb_step HG2.out (gb_setRow _ _ _) (by omega)⟩
  · go_wp2
    have r0 : RB (w1.alloc (.cells #[.int .u64 (e : Nat), .int .i64 M, .int .i64 0, .int .i64 0, .int .i64 0, .int .i64 0, .int .i64 0, .int .i64 0, .int .i64 0, .int .i64 0] 25)) (w.heap.size + 2) ⟨e, M, [0, 0, 0, 0, 0, 0, 0, 0]⟩ := by rw [← n1]; exact Blk.mk w1 _ _
    have d0 := Blk.keep0 d1 (gb_alloc w1 (.cells #[.int .u64 (e : Nat), .int .i64 M, .int .i64 0, .int .i64 0, .int .i64 0, .int .i64 0, .int .i64 0, .int .i64 0, .int .i64 0, .int .i64 0] 25) none)
    have z0 := RB.keep0 z1 (gb_alloc w1 (.cells #[.int .u64 (e : Nat), .int .i64 M, .int .i64 0, .int .i64 0, .int .i64 0, .int .i64 0, .int .i64 0, .int .i64 0, .int .i64 0, .int .i64 0] 25) none)
    have g0 := gb_trans g1 (gb_alloc w1 (.cells #[.int .u64 (e : Nat), .int .i64 M, .int .i64 0, .int .i64 0, .int .i64 0, .int .i64 0, .int .i64 0, .int .i64 0, .int .i64 0, .int .i64 0] 25) none)
    have f0 : Fit ⟨e, M, [0, 0, 0, 0, 0, 0, 0, 0]⟩ := fit_new _ _ (by first | exact HE.out | decide) (by omega)
    generalize w1.alloc (.cells #[.int .u64 (e : Nat), .int .i64 M, .int .i64 0, .int .i64 0, .int .i64 0, .int .i64 0, .int .i64 0, .int .i64 0, .int .i64 0, .int .i64 0] 25) = W0 at r0 d0 z0 g0 ⊢
    clear c0 c1 hw1 d1 z1 g1 n1 hsw hM hmx
    go_loopw [4] (fun i wr => ∃ j : Nat, j ≤ 8 ∧ i = .int .i64 j ∧ (∃ q : Rt, RB wr (w.heap.size + 2) q ∧ Fit q ∧ q.n = M) ∧ Blk wr w.heap.size 29 C ∧ RB wr (w.heap.size + 1) zeroR ∧ w.grownBy wr none) (fun i _ => 9 - (intOf i).toNat)
    case atStart => exact ⟨0, by omega, rfl, ⟨_, r0, f0, rfl⟩, d0, z0, g0⟩
    case round =>
      obtain ⟨j, hj, rfl, ⟨q, r1, f1, hqn⟩, d1, z1, g1⟩ := hrel
      clear r0 f0 d0 z0 g0
      by_cases hlt : j < 8
      · have hdc := HDC.out wr d1 j hlt
        obtain ⟨c, hce⟩ : ∃ c, cs.getD j 0 = c := ⟨_, rfl⟩
        have hcb : c < 65536 := by rw [← hce]; exact HCB.out j hlt
        rw [hce] at hdc
        have hqs := r1.sectors
        rw [hqn] at hqs
        have hcw : IntKind.i64.wrap (c : Int) = (c : Int) := IntWalk.i64_in _ (by omega)
        have hmw : IntKind.i64.wrap (M - 2) = M - 2 := IntWalk.i64_in _ (by omega)
        obtain ⟨z, hz⟩ : ∃ z : Int, (c : Int) % (M - 2) = z := ⟨_, rfl⟩
        have hz1 : 0 ≤ z := by rw [← hz]; exact Int.emod_nonneg _ (by omega)
        have hz2 : z < M - 2 := by rw [← hz]; exact Int.emod_lt_of_pos _ (by omega)
        have hzt : (c : Int).tmod (M - 2) = z := by rw [Int.tmod_eq_emod_of_nonneg (by omega)]; exact hz
        have hzw : IntKind.i64.wrap z = z := IntWalk.i64_in _ (by omega)
        have hz2w : IntKind.i64.wrap (2 + z) = 2 + z := IntWalk.i64_in _ (by omega)
        have hm0 : ((M - 2) == 0) = false := by rw [beq_eq_false_iff_ne]; omega
        have hm00 : ¬ M - 2 = 0 := by omega
        have HQ := Lib.hid (And.intro r1 (And.intro f1 hqn))
        have HR := Lib.hid (And.intro d1 (And.intro z1 g1))
        clear hce r1 f1 hqn d1 z1 g1
        go_wp2
        go_region
        go_wp2
        go_loop [5, 6] (fun cv kv => ∃ (y : Int) (k : Nat), k ≤ j ∧ cv = .int .i64 y ∧ kv = .int .i64 k ∧ 0 ≤ y ∧ y ≤ 2000) (fun _ kv => 9 - (intOf kv).toNat)
        case atStart => exact ⟨_, 0, by omega, rfl, rfl, by omega, by omega⟩
        case round =>
          obtain ⟨y, k, hk, rfl, rfl, hy1, hy2⟩ := hrel
          by_cases hkl : k < j
          · have hck := HQ.out.1.chunk k (by have := HQ.out.2.1.1; omega)
            rw [Nat.add_comm k 2] at hck
            obtain ⟨d, hd⟩ : ∃ d, q.cs.getD k 0 = d := ⟨_, rfl⟩
            rw [hd] at hck
            by_cases hdy : d = y
            · have hq : (d == y) = true := by simpa using hdy
              clear hdy
              go_wp2
              go_round
              case rel => exact ⟨_, k + 1, by omega, rfl, by go_num, by omega, by omega⟩
              case measure => simp [intOf]; omega
            · have hq : (d == y) = false := by simpa using hdy
              go_wp2
              go_round
              case rel => exact ⟨_, k + 1, by omega, rfl, by go_num, by omega, by omega⟩
              case measure => simp [intOf]; omega
          · obtain rfl : k = j := by omega
            have hq1 := HQ.out.1
            have hck := hq1.chunk k (by have := HQ.out.2.1.1; omega)
            rw [Nat.add_comm k 2] at hck
            have hfr := Blk.free hq1 (2 + k)
            obtain ⟨q2, r2, f2, hq2⟩ := set_c hq1 HQ.out.2.1 k hlt y (by omega)
            have HQ2 := Lib.hid (And.intro (RB.keep0 r2 (gb_drew _ none)) (And.intro f2 (hq2.trans HQ.out.2.2)))
            have HR2 := Lib.hid (And.intro (Blk.keep0 (Blk.keep HR.out.1 (gb_set wr (w.heap.size + 2) (2 + k) none (.int .i64 y)) (ne_some (by omega))) (gb_drew _ none)) (And.intro (Blk.keep0 (Blk.keep HR.out.2.1 (gb_set wr (w.heap.size + 2) (2 + k) none (.int .i64 y)) (ne_some (by omega))) (gb_drew _ none)) (gb_trans (gb_step HR.out.2.2 (gb_set wr (w.heap.size + 2) (2 + k) none (.int .i64 y)) (by omega)) (gb_drew _ none))))
            clear hq1 r2 f2 hq2
            go_wp2
            go_roundw
            case rel => exact ⟨k + 1, by omega, by go_num, ⟨q2, HQ2.out⟩, HR2.out.1, HR2.out.2.1, HR2.out.2.2⟩
            case measure => simp [intOf]; omega
      · obtain rfl : j = 8 := by omega
        have ho1 := HDO.out wr d1
        obtain ⟨t, ht⟩ : ∃ t : Nat, odd % 16 = t := ⟨_, rfl⟩
        have hti : (odd : Int) % 16 = (t : Int) := by omega
        clear ht
        by_cases t1 : t = 1
        · subst t1
          have hck := r1.epoch
          have hfr := Blk.free r1 0
          obtain ⟨q2, r2, f2⟩ : ∃ q2 : Rt, RB (wr.setCell ⟨w.heap.size + 2, 0, none⟩ (.int .u64 0)) (w.heap.size + 2) q2 ∧ Fit q2 := (by have := set_e r1 f1 0 (by decide); exact this)
          have z2 : RB (wr.setCell ⟨w.heap.size + 2, 0, none⟩ (.int .u64 0)) (w.heap.size + 1) zeroR := Blk.keep z1 (gb_set wr (w.heap.size + 2) 0 none (.int .u64 0)) (ne_some (by omega))
          have g2 : w.grownBy (wr.setCell ⟨w.heap.size + 2, 0, none⟩ (.int .u64 0)) none := gb_step g1 (gb_set wr (w.heap.size + 2) 0 none (.int .u64 0)) (by omega)
          obtain ⟨W2, hW2⟩ : ∃ W2, wr.setCell ⟨w.heap.size + 2, 0, none⟩ (.int .u64 0) = W2 := ⟨_, rfl⟩
          rw [hW2] at r2 z2 g2
          clear r1 f1 hqn d1 z1 g1
          have HIq := Lib.hid (root_info q2 f2.1)
          have HOq := Lib.hid (root_one q2)
          have HSq := Lib.hid (show 10 = (rootC q2).toArray.size by rw [List.size_toArray, rootC_length q2 f2.1])
          obtain ⟨D, hD⟩ : ∃ D, (rootC q2).toArray = D := ⟨_, rfl⟩
          have hn2 : W2.heap[w.heap.size + 2]? = some (.cells D 25 (0, 0)) := by rw [← hD]; exact r2
          have hz2 : W2.heap[w.heap.size + 1]? = some (.cells (rootC zeroR).toArray 25 (0, 0)) := z2
          have hset := set_root z2 q2
          rw [hD] at HIq HOq HSq hset
          have HD2 := Lib.hid hD
          have HF2 := Lib.hid f2
          have HG2 := Lib.hid g2
          clear hD f2 g2 z2 r2
          go_wp2_with (first
            | (refine wpList_load_row rfl 25 (.tmp 3) rfl (w.heap.size + 2) rfl 25 D (0, 0) _ hn2 Tryd.underlying25 rfl HIq.out ?_)
            | (refine wpList_store_row rfl 25 (.tmp 2) (.tmp 78) rfl (w.heap.size + 1) D rfl rfl 25 _ hz2 HIq.out HSq.out HOq.out ?_)
            | fail)
          refine bodyPost_ret (results_cell_row rfl _ _ (w.heap.size + 1) 25 D (0, 0) _ rfl (by have := hset; unfold RB at this; rw [HD2.out] at this; exact this) Tryd.underlying25 rfl HIq.out) rfl ⟨q2, HF2.out, by unfold RV; rw [HD2.out], gb_step HG2.out (gb_setRow _ _ _) (by omega)⟩
        by_cases t2 : t = 2
        · subst t2
          have hck := r1.sectors
          have hfr := Blk.free r1 1
          obtain ⟨q2, r2, f2⟩ : ∃ q2 : Rt, RB (wr.setCell ⟨w.heap.size + 2, 1, none⟩ (.int .i64 63)) (w.heap.size + 2) q2 ∧ Fit q2 := (by have := set_n r1 f1 63 (by decide); exact this)
          have z2 : RB (wr.setCell ⟨w.heap.size + 2, 1, none⟩ (.int .i64 63)) (w.heap.size + 1) zeroR := Blk.keep z1 (gb_set wr (w.heap.size + 2) 1 none (.int .i64 63)) (ne_some (by omega))
          have g2 : w.grownBy (wr.setCell ⟨w.heap.size + 2, 1, none⟩ (.int .i64 63)) none := gb_step g1 (gb_set wr (w.heap.size + 2) 1 none (.int .i64 63)) (by omega)
          obtain ⟨W2, hW2⟩ : ∃ W2, wr.setCell ⟨w.heap.size + 2, 1, none⟩ (.int .i64 63) = W2 := ⟨_, rfl⟩
          rw [hW2] at r2 z2 g2
          clear r1 f1 hqn d1 z1 g1
          have HIq := Lib.hid (root_info q2 f2.1)
          have HOq := Lib.hid (root_one q2)
          have HSq := Lib.hid (show 10 = (rootC q2).toArray.size by rw [List.size_toArray, rootC_length q2 f2.1])
          obtain ⟨D, hD⟩ : ∃ D, (rootC q2).toArray = D := ⟨_, rfl⟩
          have hn2 : W2.heap[w.heap.size + 2]? = some (.cells D 25 (0, 0)) := by rw [← hD]; exact r2
          have hz2 : W2.heap[w.heap.size + 1]? = some (.cells (rootC zeroR).toArray 25 (0, 0)) := z2
          have hset := set_root z2 q2
          rw [hD] at HIq HOq HSq hset
          have HD2 := Lib.hid hD
          have HF2 := Lib.hid f2
          have HG2 := Lib.hid g2
          clear hD f2 g2 z2 r2
          go_wp2_with (first
            | (refine wpList_load_row rfl 25 (.tmp 3) rfl (w.heap.size + 2) rfl 25 D (0, 0) _ hn2 Tryd.underlying25 rfl HIq.out ?_)
            | (refine wpList_store_row rfl 25 (.tmp 2) (.tmp 78) rfl (w.heap.size + 1) D rfl rfl 25 _ hz2 HIq.out HSq.out HOq.out ?_)
            | fail)
          refine bodyPost_ret (results_cell_row rfl _ _ (w.heap.size + 1) 25 D (0, 0) _ rfl (by have := hset; unfold RB at this; rw [HD2.out] at this; exact this) Tryd.underlying25 rfl HIq.out) rfl ⟨q2, HF2.out, by unfold RV; rw [HD2.out], gb_step HG2.out (gb_setRow _ _ _) (by omega)⟩
        by_cases t3 : t = 3
        · subst t3
          have hck := r1.sectors
          have hfr := Blk.free r1 1
          obtain ⟨q2, r2, f2⟩ : ∃ q2 : Rt, RB (wr.setCell ⟨w.heap.size + 2, 1, none⟩ (.int .i64 1025)) (w.heap.size + 2) q2 ∧ Fit q2 := (by have := set_n r1 f1 1025 (by decide); exact this)
          have z2 : RB (wr.setCell ⟨w.heap.size + 2, 1, none⟩ (.int .i64 1025)) (w.heap.size + 1) zeroR := Blk.keep z1 (gb_set wr (w.heap.size + 2) 1 none (.int .i64 1025)) (ne_some (by omega))
          have g2 : w.grownBy (wr.setCell ⟨w.heap.size + 2, 1, none⟩ (.int .i64 1025)) none := gb_step g1 (gb_set wr (w.heap.size + 2) 1 none (.int .i64 1025)) (by omega)
          obtain ⟨W2, hW2⟩ : ∃ W2, wr.setCell ⟨w.heap.size + 2, 1, none⟩ (.int .i64 1025) = W2 := ⟨_, rfl⟩
          rw [hW2] at r2 z2 g2
          clear r1 f1 hqn d1 z1 g1
          have HIq := Lib.hid (root_info q2 f2.1)
          have HOq := Lib.hid (root_one q2)
          have HSq := Lib.hid (show 10 = (rootC q2).toArray.size by rw [List.size_toArray, rootC_length q2 f2.1])
          obtain ⟨D, hD⟩ : ∃ D, (rootC q2).toArray = D := ⟨_, rfl⟩
          have hn2 : W2.heap[w.heap.size + 2]? = some (.cells D 25 (0, 0)) := by rw [← hD]; exact r2
          have hz2 : W2.heap[w.heap.size + 1]? = some (.cells (rootC zeroR).toArray 25 (0, 0)) := z2
          have hset := set_root z2 q2
          rw [hD] at HIq HOq HSq hset
          have HD2 := Lib.hid hD
          have HF2 := Lib.hid f2
          have HG2 := Lib.hid g2
          clear hD f2 g2 z2 r2
          go_wp2_with (first
            | (refine wpList_load_row rfl 25 (.tmp 3) rfl (w.heap.size + 2) rfl 25 D (0, 0) _ hn2 Tryd.underlying25 rfl HIq.out ?_)
            | (refine wpList_store_row rfl 25 (.tmp 2) (.tmp 78) rfl (w.heap.size + 1) D rfl rfl 25 _ hz2 HIq.out HSq.out HOq.out ?_)
            | fail)
          refine bodyPost_ret (results_cell_row rfl _ _ (w.heap.size + 1) 25 D (0, 0) _ rfl (by have := hset; unfold RB at this; rw [HD2.out] at this; exact this) Tryd.underlying25 rfl HIq.out) rfl ⟨q2, HF2.out, by unfold RV; rw [HD2.out], gb_step HG2.out (gb_setRow _ _ _) (by omega)⟩
        by_cases t4 : t = 4
        · subst t4
          have hck := r1.chunk 3 (by have := f1.1; omega)
          have hfr := Blk.free r1 5
          obtain ⟨q2, r2, f2⟩ : ∃ q2 : Rt, RB (wr.setCell ⟨w.heap.size + 2, 5, none⟩ (.int .i64 1)) (w.heap.size + 2) q2 ∧ Fit q2 := (by have := set_c r1 f1 3 (by decide) (1) (by omega); obtain ⟨q2, a, b, _⟩ := this; exact ⟨q2, a, b⟩)
          have z2 : RB (wr.setCell ⟨w.heap.size + 2, 5, none⟩ (.int .i64 1)) (w.heap.size + 1) zeroR := Blk.keep z1 (gb_set wr (w.heap.size + 2) 5 none (.int .i64 1)) (ne_some (by omega))
          have g2 : w.grownBy (wr.setCell ⟨w.heap.size + 2, 5, none⟩ (.int .i64 1)) none := gb_step g1 (gb_set wr (w.heap.size + 2) 5 none (.int .i64 1)) (by omega)
          obtain ⟨W2, hW2⟩ : ∃ W2, wr.setCell ⟨w.heap.size + 2, 5, none⟩ (.int .i64 1) = W2 := ⟨_, rfl⟩
          rw [hW2] at r2 z2 g2
          clear r1 f1 hqn d1 z1 g1
          have HIq := Lib.hid (root_info q2 f2.1)
          have HOq := Lib.hid (root_one q2)
          have HSq := Lib.hid (show 10 = (rootC q2).toArray.size by rw [List.size_toArray, rootC_length q2 f2.1])
          obtain ⟨D, hD⟩ : ∃ D, (rootC q2).toArray = D := ⟨_, rfl⟩
          have hn2 : W2.heap[w.heap.size + 2]? = some (.cells D 25 (0, 0)) := by rw [← hD]; exact r2
          have hz2 : W2.heap[w.heap.size + 1]? = some (.cells (rootC zeroR).toArray 25 (0, 0)) := z2
          have hset := set_root z2 q2
          rw [hD] at HIq HOq HSq hset
          have HD2 := Lib.hid hD
          have HF2 := Lib.hid f2
          have HG2 := Lib.hid g2
          clear hD f2 g2 z2 r2
          go_wp2_with (first
            | (refine wpList_load_row rfl 25 (.tmp 3) rfl (w.heap.size + 2) rfl 25 D (0, 0) _ hn2 Tryd.underlying25 rfl HIq.out ?_)
            | (refine wpList_store_row rfl 25 (.tmp 2) (.tmp 78) rfl (w.heap.size + 1) D rfl rfl 25 _ hz2 HIq.out HSq.out HOq.out ?_)
            | fail)
          refine bodyPost_ret (results_cell_row rfl _ _ (w.heap.size + 1) 25 D (0, 0) _ rfl (by have := hset; unfold RB at this; rw [HD2.out] at this; exact this) Tryd.underlying25 rfl HIq.out) rfl ⟨q2, HF2.out, by unfold RV; rw [HD2.out], gb_step HG2.out (gb_setRow _ _ _) (by omega)⟩
        by_cases t5 : t = 5
        · subst t5
          have hqs := r1.sectors
          rw [hqn] at hqs
          have hck := r1.chunk 7 (by have := f1.1; omega)
          have hfr := Blk.free r1 9
          obtain ⟨q2, r2, f2⟩ : ∃ q2 : Rt, RB (wr.setCell ⟨w.heap.size + 2, 9, none⟩ (.int .i64 M)) (w.heap.size + 2) q2 ∧ Fit q2 := (by have := set_c r1 f1 7 (by decide) (M) (by omega); obtain ⟨q2, a, b, _⟩ := this; exact ⟨q2, a, b⟩)
          have z2 : RB (wr.setCell ⟨w.heap.size + 2, 9, none⟩ (.int .i64 M)) (w.heap.size + 1) zeroR := Blk.keep z1 (gb_set wr (w.heap.size + 2) 9 none (.int .i64 M)) (ne_some (by omega))
          have g2 : w.grownBy (wr.setCell ⟨w.heap.size + 2, 9, none⟩ (.int .i64 M)) none := gb_step g1 (gb_set wr (w.heap.size + 2) 9 none (.int .i64 M)) (by omega)
          obtain ⟨W2, hW2⟩ : ∃ W2, wr.setCell ⟨w.heap.size + 2, 9, none⟩ (.int .i64 M) = W2 := ⟨_, rfl⟩
          rw [hW2] at r2 z2 g2
          clear r1 f1 hqn d1 z1 g1
          have HIq := Lib.hid (root_info q2 f2.1)
          have HOq := Lib.hid (root_one q2)
          have HSq := Lib.hid (show 10 = (rootC q2).toArray.size by rw [List.size_toArray, rootC_length q2 f2.1])
          obtain ⟨D, hD⟩ : ∃ D, (rootC q2).toArray = D := ⟨_, rfl⟩
          have hn2 : W2.heap[w.heap.size + 2]? = some (.cells D 25 (0, 0)) := by rw [← hD]; exact r2
          have hz2 : W2.heap[w.heap.size + 1]? = some (.cells (rootC zeroR).toArray 25 (0, 0)) := z2
          have hset := set_root z2 q2
          rw [hD] at HIq HOq HSq hset
          have HD2 := Lib.hid hD
          have HF2 := Lib.hid f2
          have HG2 := Lib.hid g2
          clear hD f2 g2 z2 r2
          go_wp2_with (first
            | (refine wpList_load_row rfl 25 (.tmp 3) rfl (w.heap.size + 2) rfl 25 D (0, 0) _ hn2 Tryd.underlying25 rfl HIq.out ?_)
            | (refine wpList_store_row rfl 25 (.tmp 2) (.tmp 78) rfl (w.heap.size + 1) D rfl rfl 25 _ hz2 HIq.out HSq.out HOq.out ?_)
            | fail)
          refine bodyPost_ret (results_cell_row rfl _ _ (w.heap.size + 1) 25 D (0, 0) _ rfl (by have := hset; unfold RB at this; rw [HD2.out] at this; exact this) Tryd.underlying25 rfl HIq.out) rfl ⟨q2, HF2.out, by unfold RV; rw [HD2.out], gb_step HG2.out (gb_setRow _ _ _) (by omega)⟩
        by_cases t6 : t = 6
        · subst t6
          have hd0 := r1.chunk 0 (by have := f1.1; omega)
          have hdb := f1.2.2.2 0 (by decide)
          obtain ⟨d, hd⟩ : ∃ d, q.cs.getD 0 0 = d := ⟨_, rfl⟩
          rw [hd] at hd0 hdb
          clear hd
          have hck := r1.chunk 1 (by have := f1.1; omega)
          have hfr := Blk.free r1 3
          obtain ⟨q2, r2, f2⟩ : ∃ q2 : Rt, RB (wr.setCell ⟨w.heap.size + 2, 3, none⟩ (.int .i64 d)) (w.heap.size + 2) q2 ∧ Fit q2 := (by have := set_c r1 f1 1 (by decide) (d) (by omega); obtain ⟨q2, a, b, _⟩ := this; exact ⟨q2, a, b⟩)
          have z2 : RB (wr.setCell ⟨w.heap.size + 2, 3, none⟩ (.int .i64 d)) (w.heap.size + 1) zeroR := Blk.keep z1 (gb_set wr (w.heap.size + 2) 3 none (.int .i64 d)) (ne_some (by omega))
          have g2 : w.grownBy (wr.setCell ⟨w.heap.size + 2, 3, none⟩ (.int .i64 d)) none := gb_step g1 (gb_set wr (w.heap.size + 2) 3 none (.int .i64 d)) (by omega)
          obtain ⟨W2, hW2⟩ : ∃ W2, wr.setCell ⟨w.heap.size + 2, 3, none⟩ (.int .i64 d) = W2 := ⟨_, rfl⟩
          rw [hW2] at r2 z2 g2
          clear r1 f1 hqn d1 z1 g1
          have HIq := Lib.hid (root_info q2 f2.1)
          have HOq := Lib.hid (root_one q2)
          have HSq := Lib.hid (show 10 = (rootC q2).toArray.size by rw [List.size_toArray, rootC_length q2 f2.1])
          obtain ⟨D, hD⟩ : ∃ D, (rootC q2).toArray = D := ⟨_, rfl⟩
          have hn2 : W2.heap[w.heap.size + 2]? = some (.cells D 25 (0, 0)) := by rw [← hD]; exact r2
          have hz2 : W2.heap[w.heap.size + 1]? = some (.cells (rootC zeroR).toArray 25 (0, 0)) := z2
          have hset := set_root z2 q2
          rw [hD] at HIq HOq HSq hset
          have HD2 := Lib.hid hD
          have HF2 := Lib.hid f2
          have HG2 := Lib.hid g2
          clear hD f2 g2 z2 r2
          go_wp2_with (first
            | (refine wpList_load_row rfl 25 (.tmp 3) rfl (w.heap.size + 2) rfl 25 D (0, 0) _ hn2 Tryd.underlying25 rfl HIq.out ?_)
            | (refine wpList_store_row rfl 25 (.tmp 2) (.tmp 78) rfl (w.heap.size + 1) D rfl rfl 25 _ hz2 HIq.out HSq.out HOq.out ?_)
            | fail)
          refine bodyPost_ret (results_cell_row rfl _ _ (w.heap.size + 1) 25 D (0, 0) _ rfl (by have := hset; unfold RB at this; rw [HD2.out] at this; exact this) Tryd.underlying25 rfl HIq.out) rfl ⟨q2, HF2.out, by unfold RV; rw [HD2.out], gb_step HG2.out (gb_setRow _ _ _) (by omega)⟩
        by_cases t7 : t = 7
        · subst t7
          have hck := r1.chunk 2 (by have := f1.1; omega)
          have hfr := Blk.free r1 4
          obtain ⟨q2, r2, f2⟩ : ∃ q2 : Rt, RB (wr.setCell ⟨w.heap.size + 2, 4, none⟩ (.int .i64 (-1))) (w.heap.size + 2) q2 ∧ Fit q2 := (by have := set_c r1 f1 2 (by decide) (-1) (by omega); obtain ⟨q2, a, b, _⟩ := this; exact ⟨q2, a, b⟩)
          have z2 : RB (wr.setCell ⟨w.heap.size + 2, 4, none⟩ (.int .i64 (-1))) (w.heap.size + 1) zeroR := Blk.keep z1 (gb_set wr (w.heap.size + 2) 4 none (.int .i64 (-1))) (ne_some (by omega))
          have g2 : w.grownBy (wr.setCell ⟨w.heap.size + 2, 4, none⟩ (.int .i64 (-1))) none := gb_step g1 (gb_set wr (w.heap.size + 2) 4 none (.int .i64 (-1))) (by omega)
          obtain ⟨W2, hW2⟩ : ∃ W2, wr.setCell ⟨w.heap.size + 2, 4, none⟩ (.int .i64 (-1)) = W2 := ⟨_, rfl⟩
          rw [hW2] at r2 z2 g2
          clear r1 f1 hqn d1 z1 g1
          have HIq := Lib.hid (root_info q2 f2.1)
          have HOq := Lib.hid (root_one q2)
          have HSq := Lib.hid (show 10 = (rootC q2).toArray.size by rw [List.size_toArray, rootC_length q2 f2.1])
          obtain ⟨D, hD⟩ : ∃ D, (rootC q2).toArray = D := ⟨_, rfl⟩
          have hn2 : W2.heap[w.heap.size + 2]? = some (.cells D 25 (0, 0)) := by rw [← hD]; exact r2
          have hz2 : W2.heap[w.heap.size + 1]? = some (.cells (rootC zeroR).toArray 25 (0, 0)) := z2
          have hset := set_root z2 q2
          rw [hD] at HIq HOq HSq hset
          have HD2 := Lib.hid hD
          have HF2 := Lib.hid f2
          have HG2 := Lib.hid g2
          clear hD f2 g2 z2 r2
          go_wp2_with (first
            | (refine wpList_load_row rfl 25 (.tmp 3) rfl (w.heap.size + 2) rfl 25 D (0, 0) _ hn2 Tryd.underlying25 rfl HIq.out ?_)
            | (refine wpList_store_row rfl 25 (.tmp 2) (.tmp 78) rfl (w.heap.size + 1) D rfl rfl 25 _ hz2 HIq.out HSq.out HOq.out ?_)
            | fail)
          refine bodyPost_ret (results_cell_row rfl _ _ (w.heap.size + 1) 25 D (0, 0) _ rfl (by have := hset; unfold RB at this; rw [HD2.out] at this; exact this) Tryd.underlying25 rfl HIq.out) rfl ⟨q2, HF2.out, by unfold RV; rw [HD2.out], gb_step HG2.out (gb_setRow _ _ _) (by omega)⟩
        have e1 : ((t : Int) == 1) = false := by rw [beq_eq_false_iff_ne]; omega
        have e2 : ((t : Int) == 2) = false := by rw [beq_eq_false_iff_ne]; omega
        have e3 : ((t : Int) == 3) = false := by rw [beq_eq_false_iff_ne]; omega
        have e4 : ((t : Int) == 4) = false := by rw [beq_eq_false_iff_ne]; omega
        have e5 : ((t : Int) == 5) = false := by rw [beq_eq_false_iff_ne]; omega
        have e6 : ((t : Int) == 6) = false := by rw [beq_eq_false_iff_ne]; omega
        have e7 : ((t : Int) == 7) = false := by rw [beq_eq_false_iff_ne]; omega
        obtain ⟨q2, hq2⟩ : ∃ q2, q = q2 := ⟨_, rfl⟩
        subst hq2
        have r2 := r1
        have f2 := f1
        have z2 := z1
        have g2 := g1
        clear r1 f1 hqn d1 z1 g1 t1 t2 t3 t4 t5 t6 t7
        have HIq := Lib.hid (root_info q f2.1)
        have HOq := Lib.hid (root_one q)
        have HSq := Lib.hid (show 10 = (rootC q).toArray.size by rw [List.size_toArray, rootC_length q f2.1])
        obtain ⟨D, hD⟩ : ∃ D, (rootC q).toArray = D := ⟨_, rfl⟩
        have hn2 : wr.heap[w.heap.size + 2]? = some (.cells D 25 (0, 0)) := by rw [← hD]; exact r2
        have hz2 : wr.heap[w.heap.size + 1]? = some (.cells (rootC zeroR).toArray 25 (0, 0)) := z2
        have hset := set_root z2 q
        rw [hD] at HIq HOq HSq hset
        have HD2 := Lib.hid hD
        have HF2 := Lib.hid f2
        have HG2 := Lib.hid g2
        clear hD f2 g2 z2 r2
        go_wp2_with (first
          | (refine wpList_load_row rfl 25 (.tmp 3) rfl (w.heap.size + 2) rfl 25 D (0, 0) _ hn2 Tryd.underlying25 rfl HIq.out ?_)
          | (refine wpList_store_row rfl 25 (.tmp 2) (.tmp 78) rfl (w.heap.size + 1) D rfl rfl 25 _ hz2 HIq.out HSq.out HOq.out ?_)
          | fail)
        refine bodyPost_ret (results_cell_row rfl _ _ (w.heap.size + 1) 25 D (0, 0) _ rfl (by have := hset; unfold RB at this; rw [HD2.out] at this; exact this) Tryd.underlying25 rfl HIq.out) rfl ⟨q, HF2.out, by unfold RV; rw [HD2.out], gb_step HG2.out (gb_setRow _ _ _) (by omega)⟩
end Go.Proofs.YtckkbcgolphajaaDoor
