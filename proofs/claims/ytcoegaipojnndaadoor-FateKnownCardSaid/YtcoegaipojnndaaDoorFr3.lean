/-
  Which fate choices tell, by the document's own answer (foyerref04.Read), over this seat's translation; conditions: the numbers fit their kinds, the slice reads as a list of bytes.
-/
import Derived.Test.YtcoegaipojnndaaDoorFr2
import Derived.Deep.RegionHeld3
import Derived.Deep.AppendLies
import Derived.Deep.DeepCutAuto
import Derived.IntWalk
import Derived.Outline
namespace Go.Proofs.YtcoegaipojnndaaDoor
open Go.RowKit

/-- Did the i-th write come, by these choices? -/
def wentB (cs : List UInt8) (i : Nat) : Bool := decide (i / 8 < cs.length) && decide ((cs.getD (i / 8) 0).toNat / 2 ^ (i % 8) % 2 = 1)
def cameF (cs : List UInt8) (n : Nat) : List Bool := (List.range n).map (wentB cs)
theorem cameF_succ (cs : List UInt8) (n : Nat) : cameF cs (n + 1) = cameF cs n ++ [wentB cs n] := by simp [cameF, List.range_succ]
theorem cameF_length (cs : List UInt8) (n : Nat) : (cameF cs n).length = n := by simp [cameF]
/-- Is one of them torn? -/
def tornB (cs : List UInt8) (n : Nat) : Bool := decide ((n + 7) / 8 + 3 ≤ cs.length) && (decide ((cs.getD ((n + 7) / 8) 0).toNat < 128) && decide (0 < (cameTo (cameF cs n) n).length))
def tornF (cs : List UInt8) (n : Nat) : Int := if tornB cs n = true then (((cameTo (cameF cs n) n).getD ((cs.getD ((n + 7) / 8) 0).toNat % (cameTo (cameF cs n) n).length) 0 : Nat) : Int) else -1
def atF (cs : List UInt8) (n : Nat) : Int := if tornB cs n = true then (((256 * (cs.getD ((n + 7) / 8 + 1) 0).toNat + (cs.getD ((n + 7) / 8 + 2) 0).toNat) % 257 : Nat) : Int) else 0
theorem bytes_at {l : List UInt8} {j : Nat} (h : j < l.length) : (bytesC l)[j]? = some (.int .u8 ((l.getD j 0).toNat : Nat)) := by simp [bytesC, h, List.getD]

theorem ints_at {l : List Nat} {j : Nat} (h : j < l.length) : (intsC l)[j]? = some (.int .i64 (l.getD j 0 : Nat)) := by simp [intsC, h, List.getD]

set_option maxRecDepth 100000 in
set_option maxHeartbeats 2000000 in
theorem refRead_any (vc : Value) (cs : List UInt8) (n : Int) (w : World) (hv : Bts w vc cs) (h1 : -9223372036854775808 ≤ n) (h2 : n ≤ 9223372036854775807) :
    Calls Tryd.prog 49 #[vc, .int .i64 n] w (FateGot w (cameF cs (manyN n)) (tornF cs (manyN n)) (atF cs (manyN n))) := by
  obtain ⟨i0, hi, hz0, hz1, hz2⟩ := info_parts Tryd.infoBool
  obtain ⟨ao, ca, rfl, hca, _, hna, hxa⟩ := hv
  have HA := Lib.hid hxa
  have HN := Lib.hid hna
  clear hxa hna
  have hN := manyN_le n
  go_enter Tryd.func49, Tryd.ntmps49
  go_wp2_with (go_at_call 61; (with_reducible refine (many_any n _ h1 h2).mono ?_); rintro e w' ⟨rfl, rfl⟩)
  obtain ⟨N, hNe⟩ : ∃ N, manyN n = N := ⟨_, rfl⟩
  rw [hNe] at hN
  have HNe := Lib.hid hNe
  simp only [hNe]
  clear hNe
  go_loopw [7] (fun v wr => ∃ k : Nat, k ≤ N ∧ v = .int .i64 k ∧ Making w wr (w.heap.size + 1) w.heap.size (cameF cs k) (-1) 0) (fun v _ => N - (intOf v).toNat)
  case atStart =>
    refine ⟨0, by omega, rfl, .slice none 0 0, ?_, ?_, World.ownsRow_nil _ _ _ _, gb_trans (gb_alloc _ _ _) (gb_alloc _ _ _)⟩
    · have := Blk.mk (w.alloc (.cells #[.slice none 0 0, .int .i64 0, .int .i64 0] 25)) 25 #[.slice none 0 0, .int .i64 (-1), .int .i64 0]
      rw [World.size_alloc] at this
      exact this
    · exact (Blk.mk w 25 #[.slice none 0 0, .int .i64 0, .int .i64 0]).keep0 (gb_alloc _ _ _)
  case round =>
    obtain ⟨k, hk, rfl, hm⟩ := hrel
    obtain ⟨aov, cap, bf, br, own, hg⟩ := making_form hm
    clear hm
    rw [cameF_length] at bf own
    have c0 := bf.cell 0 rfl
    have f0 := bf.free 0
    have hlb := bf.lt
    have hlr := br.lt
    by_cases hlt : k < N
    · have hm8 : k % 8 ≤ 7 := by omega
      have hlt' : (k : Int) < (N : Int) := by omega
      go_wp2
      go_loop [8, 9] (fun v8 v9 => ∃ m b : Nat, m ≤ k % 8 ∧ v9 = .int .i64 m ∧ v8 = .int .u8 b ∧ b = 2 ^ m) (fun _ v => 8 - (intOf v).toNat)
      case atStart => exact ⟨0, 1, by omega, rfl, rfl, rfl⟩
      case round =>
        obtain ⟨m, b, hmk, rfl, rfl, hb⟩ := hrel
        have HB := Lib.hid hb
        have hb1 : 1 ≤ b := by rw [hb]; exact Nat.pos_of_ne_zero (by simp)
        have hb2 : b ≤ 128 := by rw [hb]; exact Nat.le_trans (Nat.pow_le_pow_right (by omega) (show m ≤ 7 by omega)) (by decide)
        by_cases hlm : m < k % 8
        · have hb3 : b ≤ 64 := by rw [hb]; exact Nat.le_trans (Nat.pow_le_pow_right (by omega) (show m ≤ 6 by omega)) (by decide)
          clear hb
          have hlm' : (m : Int) < (k : Int) % 8 := by omega
          go_wp2
          go_round
          case rel => exact ⟨m + 1, b * 2, by omega, by go_num, by go_num, by rw [HB.out, Nat.pow_succ]⟩
          case measure => simp [intOf]; omega
        · have hmk2 : m = k % 8 := by omega
          have hlm' : ¬ (m : Int) < (k : Int) % 8 := by omega
          rw [hmk2] at HB
          clear hb hmk2
          obtain ⟨q, hq⟩ : ∃ q, k / 8 = q := ⟨_, rfl⟩
          have ht : IntKind.i64.wrap ((k : Int) / 8) = (q : Int) := by
            rw [show (k : Int) / 8 = (q : Int) by omega]
            exact IntWalk.i64_in _ (by omega)
          have hq0 : (0 : Int) ≤ (q : Int) := by omega
          have Hq := Lib.hid hq
          clear hq
          have hbz : ((b : Int) == 0) = false := beq_eq_false_iff_ne.2 (by omega)
          by_cases hin : q < cs.length
          · cases ao with
            | none => have := (HN.out rfl).1; omega
            | some x =>
              have d0 := hg.cell (HA.out x rfl q _ (bytes_at hin)) (by simp)
              have hin2 : (q : Int) < (cs.length : Int) := by omega
              generalize hcb : cs.getD q 0 = c at d0
              have Hc := Lib.hid hcb
              clear hcb
              have hc256 := c.toNat_lt
              obtain ⟨u, hu⟩ : ∃ u, c.toNat / b = u := ⟨_, rfl⟩
              have hu256 : u ≤ 255 := by rw [← hu]; exact Nat.le_trans (Nat.div_le_self _ _) (by omega)
              have ht1 : IntKind.u8.wrap ((c.toNat : Int) / (b : Int)) = (u : Int) := by
                rw [← Int.natCast_ediv, hu]
                simp only [IntKind.wrap, IntKind.bits, IntKind.signed]; simp; omega
              have ht2 : IntKind.u8.wrap ((u : Int) % 2) = ((u % 2 : Nat) : Int) := by
                simp only [IntKind.wrap, IntKind.bits, IntKind.signed]; simp; omega
              have ht3 : IntKind.u8.wrap ((c.toNat : Int).tdiv (b : Int)) = (u : Int) := by
                rw [Int.tdiv_eq_ediv_of_nonneg (by omega)]; exact ht1
              have hb0 : ¬ b = 0 := by omega
              have hb0' : ¬ (b : Int) = 0 := by omega
              have Hu := Lib.hid hu
              clear hu
              go_upto_region 11 with fail
              have hcx := HA.out x rfl q _ (bytes_at hin)
              rw [Hc.out] at hcx
              have hne := World.new_ne wr ⟨w.heap.size + 1, 0, none⟩ c0
              have hbit : (((u % 2 : Nat) : Int) == 1) = wentB cs k := by
                unfold wentB
                rw [Hq.out, Hc.out, ← HB.out, Hu.out]
                simp only [hin, decide_true, Bool.true_and]
                by_cases h : u % 2 = 1
                · rw [h]; rfl
                · rw [show u % 2 = 0 by omega]; rfl
              have hfin : ∀ (w1 : World) (g capg : Nat), w1.ownsRow (w.heap.size + 2) 4 1 (.slice (some ⟨g, 0, none⟩) (k + 1) capg) (k + 1) (bools (cameF cs k) ++ [.bool (((u % 2 : Nat) : Int) == 1)]) → wr.grownBy w1 (Value.slice aov k cap).ownBlock → Making w (w1.setCell ⟨w.heap.size + 1, 0, none⟩ (.slice (some ⟨g, 0, none⟩) (k + 1) capg)) (w.heap.size + 1) w.heap.size (cameF cs (k + 1)) (-1) 0 := by
                intro w1 g capg h1 h2
                refine ⟨_, (bf.keep h2 (own_far own (by omega))).set 0 _, (br.keep h2 (own_far own (by omega))).keep (gb_set _ _ _ _ _) (ne_some (by omega)), own_set (owns_cast h1 (by rw [cameF_length]) (by rw [cameF_succ, bools_snoc, hbit])) (by omega) _, gb_step (gb_own2 hg own (by omega) h2) (gb_set _ _ _ _ _) (by simp)⟩
              have HF := Lib.hid hfin
              clear hfin hbit
              have hX : ∀ w', w.grownBy w' none → w'.cell? (x.add q) = some (.int .u8 (c.toNat : Nat)) := fun w' g => g.cell hcx (by simp)
              have HX := Lib.hid hX
              clear hX hcx
              refine wp_region_noPanic ?_
              refine wp_region_held_drew (S := fun w' => w'.cell? (x.add q) = some (.int .u8 (c.toNat : Nat))) (by kernel_rfl) (HX.out _ (by first | exact gb_step hgw (gb_set _ _ _ _ _) (by omega) | exact gb_trans hgw (gb_drew _ _) | exact hgw | exact gb_trans (gb_trans hg (gb_drew _ _)) (gb_alloc _ _ _) | exact gb_trans hg (gb_drew _ _) | exact gb_trans (gb_trans hg (gb_alloc _ _ _)) (gb_drew _ _) | exact gb_trans (gb_trans (gb_trans hg (gb_drew _ _)) (gb_alloc _ _ _)) (gb_drew _ _))) (fun hHeld => ?_)
              refine wpAnyH_take (i := 0) (v := ?_) (List.getElem?_toArray.trans rfl) (by kernel_rfl) (by kernel_rfl) (by kernel_rfl) (fun _ _ _ h => h) (Or.inl ⟨by rfl, ?_⟩) hHeld ?_
              rotate_left
              · intro w' hSw; go_simp; try with_reducible rfl
              try simp only [Act.put, List.setIfInBounds_toArray, List.set_cons_zero, List.set_cons_succ]
              refine wpAnyH_take (i := 2) (v := ?_) (List.getElem?_toArray.trans rfl) (by kernel_rfl) (by kernel_rfl) (by kernel_rfl) (fun _ _ _ h => h) (Or.inl ⟨by rfl, ?_⟩) hHeld ?_
              rotate_left
              · intro w' hSw; go_simp; try with_reducible rfl
              try simp only [Act.put, List.setIfInBounds_toArray, List.set_cons_zero, List.set_cons_succ]
              refine wpAnyH_take (i := 3) (v := ?_) (List.getElem?_toArray.trans rfl) (by kernel_rfl) (by kernel_rfl) (by kernel_rfl) (fun _ _ _ h => h) (Or.inl ⟨by rfl, ?_⟩) hHeld ?_
              rotate_left
              · intro w' hSw; go_simp; try with_reducible rfl
              try simp only [Act.put, List.setIfInBounds_toArray, List.set_cons_zero, List.set_cons_succ]
              refine wpAnyH_take (i := 4) (v := ?_) (List.getElem?_toArray.trans rfl) (by kernel_rfl) (by kernel_rfl) (by kernel_rfl) (fun _ _ _ h => h) (Or.inl ⟨by rfl, ?_⟩) hHeld ?_
              rotate_left
              · intro w' hSw; go_simp; try with_reducible rfl
              try simp only [Act.put, List.setIfInBounds_toArray, List.set_cons_zero, List.set_cons_succ]
              refine wpAnyH_take (i := 5) (v := ?_) (List.getElem?_toArray.trans rfl) (by kernel_rfl) (by kernel_rfl) (by kernel_rfl) (fun _ _ _ h => h) (Or.inl ⟨by rfl, ?_⟩) hHeld ?_
              rotate_left
              · intro w' hSw; go_simp; try with_reducible rfl
              try simp only [Act.put, List.setIfInBounds_toArray, List.set_cons_zero, List.set_cons_succ]
              refine wpAnyH_take (i := 6) (v := ?_) (List.getElem?_toArray.trans rfl) (by kernel_rfl) (by kernel_rfl) (by kernel_rfl) (fun _ _ _ h => h) (Or.inl ⟨by rfl, ?_⟩) hHeld ?_
              rotate_left
              · intro w' hSw; go_simp; try with_reducible rfl
              try simp only [Act.put, List.setIfInBounds_toArray, List.set_cons_zero, List.set_cons_succ]
              refine wpAnyH_take (i := 7) (v := ?_) (List.getElem?_toArray.trans rfl) (by kernel_rfl) (by kernel_rfl) (by kernel_rfl) (fun _ _ _ h => h) (Or.inl ⟨by rfl, ?_⟩) hHeld ?_
              rotate_left
              · intro w' hSw; go_simp; try with_reducible rfl
              try simp only [Act.put, List.setIfInBounds_toArray, List.set_cons_zero, List.set_cons_succ]
              refine wpAnyH_take (i := 8) (v := ?_) (List.getElem?_toArray.trans rfl) (by kernel_rfl) (by kernel_rfl) (by kernel_rfl) (fun _ _ _ h => h) (Or.inl ⟨by rfl, ?_⟩) hHeld ?_
              rotate_left
              · intro w' hSw; go_simp; try with_reducible rfl
              try simp only [Act.put, List.setIfInBounds_toArray, List.set_cons_zero, List.set_cons_succ]
              refine wpAnyH_take (i := 9) (v := ?_) (List.getElem?_toArray.trans rfl) (by kernel_rfl) (by kernel_rfl) (by kernel_rfl) (fun _ _ _ h => h) (Or.inl ⟨by rfl, ?_⟩) hHeld ?_
              rotate_left
              · intro w' hSw; go_simp; try with_reducible rfl
              try simp only [Act.put, List.setIfInBounds_toArray, List.set_cons_zero, List.set_cons_succ]
              refine wpAnyH_take (i := 10) (v := ?_) (List.getElem?_toArray.trans rfl) (by kernel_rfl) (by kernel_rfl) (by kernel_rfl) (fun _ _ _ h => h) (Or.inl ⟨by rfl, ?_⟩) hHeld ?_
              rotate_left
              · intro w' hSw; go_simp; try with_reducible rfl
              try simp only [Act.put, List.setIfInBounds_toArray, List.set_cons_zero, List.set_cons_succ]
              refine wpAnyH_take (i := 11) (v := ?_) (List.getElem?_toArray.trans rfl) (by kernel_rfl) (by kernel_rfl) (by kernel_rfl) (fun _ _ _ h => h) (Or.inl ⟨by rfl, ?_⟩) hHeld ?_
              rotate_left
              · intro w' hSw; go_simp; try with_reducible rfl
              try simp only [Act.put, List.setIfInBounds_toArray, List.set_cons_zero, List.set_cons_succ]
              refine wpAnyH_take (i := 12) (v := ?_) (List.getElem?_toArray.trans rfl) (by kernel_rfl) (by kernel_rfl) (by kernel_rfl) (fun _ _ _ h => h) (Or.inl ⟨by rfl, ?_⟩) hHeld ?_
              rotate_left
              · intro w' hSw; go_simp; try with_reducible rfl
              try simp only [Act.put, List.setIfInBounds_toArray, List.set_cons_zero, List.set_cons_succ]
              refine wpAnyH_take (i := 13) (v := ?_) (List.getElem?_toArray.trans rfl) (by kernel_rfl) (by kernel_rfl) (by kernel_rfl) (fun _ _ _ h => h) (Or.inl ⟨by rfl, ?_⟩) hHeld ?_
              rotate_left
              · intro w' hSw; go_simp; try with_reducible rfl
              try simp only [Act.put, List.setIfInBounds_toArray, List.set_cons_zero, List.set_cons_succ]
              refine wpAnyH_take (i := 14) (v := ?_) (List.getElem?_toArray.trans rfl) (by kernel_rfl) (by kernel_rfl) (by kernel_rfl) (fun _ _ _ h => h) (Or.inl ⟨by rfl, ?_⟩) hHeld ?_
              rotate_left
              · intro w' hSw; go_simp; try with_reducible rfl
              try simp only [Act.put, List.setIfInBounds_toArray, List.set_cons_zero, List.set_cons_succ]
              refine wpAnyH_take (i := 15) (v := ?_) (List.getElem?_toArray.trans rfl) (by kernel_rfl) (by kernel_rfl) (by kernel_rfl) (fun _ _ _ h => h) (Or.inl ⟨by rfl, ?_⟩) hHeld ?_
              rotate_left
              · intro w' hSw; go_simp; try with_reducible rfl
              try simp only [Act.put, List.setIfInBounds_toArray, List.set_cons_zero, List.set_cons_succ]
              refine wpAnyH_take (i := 16) (v := ?_) (List.getElem?_toArray.trans rfl) (by kernel_rfl) (by kernel_rfl) (by kernel_rfl) (fun _ _ _ h => h) (Or.inl ⟨by rfl, ?_⟩) hHeld ?_
              rotate_left
              · intro w' hSw; go_simp; try with_reducible rfl
              try simp only [Act.put, List.setIfInBounds_toArray, List.set_cons_zero, List.set_cons_succ]
              refine wpAnyH_take (i := 17) (v := ?_) (List.getElem?_toArray.trans rfl) (by kernel_rfl) (by kernel_rfl) (by kernel_rfl) (fun _ _ _ h => h) (Or.inl ⟨by rfl, ?_⟩) hHeld ?_
              rotate_left
              · intro w' hSw; go_simp; try with_reducible rfl
              try simp only [Act.put, List.setIfInBounds_toArray, List.set_cons_zero, List.set_cons_succ]
              refine wpAnyH_ready (rs := [1, 18]) (by kernel_rfl) (by simp) ?_
              refine AllReadyH.cons (List.getElem?_toArray.trans rfl) (fun K hK => ?_) (AllReadyH.cons (List.getElem?_toArray.trans rfl) (fun K hK => ?_) AllReadyH.nil)
              · go_simp
                refine hK.out _ _ (HX.out _ (by first | exact gb_step hgw (gb_set _ _ _ _ _) (by omega) | exact gb_trans hgw (gb_drew _ _) | exact hgw | exact gb_trans (gb_trans hg (gb_drew _ _)) (gb_alloc _ _ _) | exact gb_trans hg (gb_drew _ _) | exact gb_trans (gb_trans hg (gb_alloc _ _ _)) (gb_drew _ _) | exact gb_trans (gb_trans (gb_trans hg (gb_drew _ _)) (gb_alloc _ _ _)) (gb_drew _ _))) (fun hHeld => ?_)
                clear hK K
                try simp only [Act.put, List.setIfInBounds_toArray, List.set_cons_zero, List.set_cons_succ]
                skip
                refine wpAnyH_ready (rs := [18]) (by kernel_rfl) (by simp) ?_
                refine AllReadyH.cons (List.getElem?_toArray.trans rfl) (fun K hK => ?_) AllReadyH.nil
                go_simp
                refine hK.out _ _ (HX.out _ (by first | exact gb_step hgw (gb_set _ _ _ _ _) (by omega) | exact gb_trans hgw (gb_drew _ _) | exact hgw | exact gb_trans (gb_trans hg (gb_drew _ _)) (gb_alloc _ _ _) | exact gb_trans hg (gb_drew _ _) | exact gb_trans (gb_trans hg (gb_alloc _ _ _)) (gb_drew _ _) | exact gb_trans (gb_trans (gb_trans hg (gb_drew _ _)) (gb_alloc _ _ _)) (gb_drew _ _))) (fun hHeld => ?_)
                clear hK K
                try simp only [Act.put, List.setIfInBounds_toArray, List.set_cons_zero, List.set_cons_succ]
                skip
                refine wpAnyH_ready (rs := [19]) (by kernel_rfl) (by simp) ?_
                refine AllReadyH.cons (List.getElem?_toArray.trans rfl) (fun K hK => ?_) AllReadyH.nil
                refine step_append_lies _ (by rfl) _ _ 23 (by rfl) (w.heap.size + 2) 4 i0 (.bool false) 1 1 Tryd.underlying23 hi hz0 hz1 hz2 (by rfl) (by decide) (.slice aov k cap) k (bools (cameF cs k)) (by rfl) (own.kept (row := none) (by first | exact gb_alloc _ _ _ | exact gb_trans (gb_drew _ _) (gb_alloc _ _ _) | exact gb_trans (gb_alloc _ _ _) (gb_drew _ _) | exact gb_trans (gb_trans (gb_drew _ _) (gb_alloc _ _ _)) (gb_drew _ _)) (by cases aov <;> simp [Value.ownBlock])) ⟨wr.heap.size, 0, none⟩ 1 1 [.bool (((u % 2 : Nat) : Int) == 1)] (by rfl) (by rfl) (by exact cell_one_new _ _ _) (one_bool _) (by omega) (by unfold maxLen; omega) (by omega) (by simp; omega) _ rfl ?_; intro g capg w1 hown1 hgrow hat hlt1; have hgg : wr.grownBy w1 (Value.slice aov k cap).ownBlock := (by refine gb_trans ?_ hgrow; first | exact gb_alloc _ _ _ | exact gb_trans (gb_drew _ _) (gb_alloc _ _ _) | exact gb_trans (gb_alloc _ _ _) (gb_drew _ _) | exact gb_trans (gb_trans (gb_drew _ _) (gb_alloc _ _ _)) (gb_drew _ _)); have c1 := (bf.keep hgg (own_far own (by omega))).cell 0 rfl; have f1 := (bf.keep hgg (own_far own (by omega))).free 0; have hgw := gb_own2 hg own (by omega) hgg
                refine hK.out _ _ (HX.out _ (by first | exact gb_step hgw (gb_set _ _ _ _ _) (by omega) | exact gb_trans hgw (gb_drew _ _) | exact hgw | exact gb_trans (gb_trans hg (gb_drew _ _)) (gb_alloc _ _ _) | exact gb_trans hg (gb_drew _ _) | exact gb_trans (gb_trans hg (gb_alloc _ _ _)) (gb_drew _ _) | exact gb_trans (gb_trans (gb_trans hg (gb_drew _ _)) (gb_alloc _ _ _)) (gb_drew _ _))) (fun hHeld => ?_)
                clear hK K
                try simp only [Act.put, List.setIfInBounds_toArray, List.set_cons_zero, List.set_cons_succ]
                refine wpAnyH_take (i := 20) (v := ?_) (List.getElem?_toArray.trans rfl) (by kernel_rfl) (by kernel_rfl) (by kernel_rfl) (fun _ _ _ h => h) (Or.inl ⟨by rfl, ?_⟩) hHeld ?_
                rotate_left
                · intro w' hSw; go_simp; try with_reducible rfl
                try simp only [Act.put, List.setIfInBounds_toArray, List.set_cons_zero, List.set_cons_succ]
                skip
                refine wpAnyH_ready (rs := [21]) (by kernel_rfl) (by simp) ?_
                refine AllReadyH.cons (List.getElem?_toArray.trans rfl) (fun K hK => ?_) AllReadyH.nil
                go_simp
                refine hK.out _ _ (HX.out _ (by first | exact gb_step hgw (gb_set _ _ _ _ _) (by omega) | exact gb_trans hgw (gb_drew _ _) | exact hgw | exact gb_trans (gb_trans hg (gb_drew _ _)) (gb_alloc _ _ _) | exact gb_trans hg (gb_drew _ _) | exact gb_trans (gb_trans hg (gb_alloc _ _ _)) (gb_drew _ _) | exact gb_trans (gb_trans (gb_trans hg (gb_drew _ _)) (gb_alloc _ _ _)) (gb_drew _ _))) (fun hHeld => ?_)
                clear hK K
                try simp only [Act.put, List.setIfInBounds_toArray, List.set_cons_zero, List.set_cons_succ]
                refine wpAnyH_done (by kernel_rfl) ?_ _
                refine NoPanic.normal ?_
                go_wp2
                go_roundw
                case rel => exact ⟨k + 1, by omega, by go_num, by first | exact HF.out _ _ _ hown1 hgg | exact HF.out _ _ _ (World.ownsRow.drew hown1) (gb_trans hgg (gb_drew _ _))⟩
                case measure => simp [intOf]; omega
              · go_simp
                refine hK.out _ _ (HX.out _ (by first | exact gb_step hgw (gb_set _ _ _ _ _) (by omega) | exact gb_trans hgw (gb_drew _ _) | exact hgw | exact gb_trans (gb_trans hg (gb_drew _ _)) (gb_alloc _ _ _) | exact gb_trans hg (gb_drew _ _) | exact gb_trans (gb_trans hg (gb_alloc _ _ _)) (gb_drew _ _) | exact gb_trans (gb_trans (gb_trans hg (gb_drew _ _)) (gb_alloc _ _ _)) (gb_drew _ _))) (fun hHeld => ?_)
                clear hK K
                try simp only [Act.put, List.setIfInBounds_toArray, List.set_cons_zero, List.set_cons_succ]
                skip
                refine wpAnyH_ready (rs := [1]) (by kernel_rfl) (by simp) ?_
                refine AllReadyH.cons (List.getElem?_toArray.trans rfl) (fun K hK => ?_) AllReadyH.nil
                go_simp
                refine hK.out _ _ (HX.out _ (by first | exact gb_step hgw (gb_set _ _ _ _ _) (by omega) | exact gb_trans hgw (gb_drew _ _) | exact hgw | exact gb_trans (gb_trans hg (gb_drew _ _)) (gb_alloc _ _ _) | exact gb_trans hg (gb_drew _ _) | exact gb_trans (gb_trans hg (gb_alloc _ _ _)) (gb_drew _ _) | exact gb_trans (gb_trans (gb_trans hg (gb_drew _ _)) (gb_alloc _ _ _)) (gb_drew _ _))) (fun hHeld => ?_)
                clear hK K
                try simp only [Act.put, List.setIfInBounds_toArray, List.set_cons_zero, List.set_cons_succ]
                skip
                refine wpAnyH_ready (rs := [19]) (by kernel_rfl) (by simp) ?_
                refine AllReadyH.cons (List.getElem?_toArray.trans rfl) (fun K hK => ?_) AllReadyH.nil
                refine step_append_lies _ (by rfl) _ _ 23 (by rfl) (w.heap.size + 2) 4 i0 (.bool false) 1 1 Tryd.underlying23 hi hz0 hz1 hz2 (by rfl) (by decide) (.slice aov k cap) k (bools (cameF cs k)) (by rfl) (own.kept (row := none) (by first | exact gb_alloc _ _ _ | exact gb_trans (gb_drew _ _) (gb_alloc _ _ _) | exact gb_trans (gb_alloc _ _ _) (gb_drew _ _) | exact gb_trans (gb_trans (gb_drew _ _) (gb_alloc _ _ _)) (gb_drew _ _)) (by cases aov <;> simp [Value.ownBlock])) ⟨wr.heap.size, 0, none⟩ 1 1 [.bool (((u % 2 : Nat) : Int) == 1)] (by rfl) (by rfl) (by exact cell_one_new _ _ _) (one_bool _) (by omega) (by unfold maxLen; omega) (by omega) (by simp; omega) _ rfl ?_; intro g capg w1 hown1 hgrow hat hlt1; have hgg : wr.grownBy w1 (Value.slice aov k cap).ownBlock := (by refine gb_trans ?_ hgrow; first | exact gb_alloc _ _ _ | exact gb_trans (gb_drew _ _) (gb_alloc _ _ _) | exact gb_trans (gb_alloc _ _ _) (gb_drew _ _) | exact gb_trans (gb_trans (gb_drew _ _) (gb_alloc _ _ _)) (gb_drew _ _)); have c1 := (bf.keep hgg (own_far own (by omega))).cell 0 rfl; have f1 := (bf.keep hgg (own_far own (by omega))).free 0; have hgw := gb_own2 hg own (by omega) hgg
                refine hK.out _ _ (HX.out _ (by first | exact gb_step hgw (gb_set _ _ _ _ _) (by omega) | exact gb_trans hgw (gb_drew _ _) | exact hgw | exact gb_trans (gb_trans hg (gb_drew _ _)) (gb_alloc _ _ _) | exact gb_trans hg (gb_drew _ _) | exact gb_trans (gb_trans hg (gb_alloc _ _ _)) (gb_drew _ _) | exact gb_trans (gb_trans (gb_trans hg (gb_drew _ _)) (gb_alloc _ _ _)) (gb_drew _ _))) (fun hHeld => ?_)
                clear hK K
                try simp only [Act.put, List.setIfInBounds_toArray, List.set_cons_zero, List.set_cons_succ]
                refine wpAnyH_take (i := 20) (v := ?_) (List.getElem?_toArray.trans rfl) (by kernel_rfl) (by kernel_rfl) (by kernel_rfl) (fun _ _ _ h => h) (Or.inl ⟨by rfl, ?_⟩) hHeld ?_
                rotate_left
                · intro w' hSw; go_simp; try with_reducible rfl
                try simp only [Act.put, List.setIfInBounds_toArray, List.set_cons_zero, List.set_cons_succ]
                skip
                refine wpAnyH_ready (rs := [21]) (by kernel_rfl) (by simp) ?_
                refine AllReadyH.cons (List.getElem?_toArray.trans rfl) (fun K hK => ?_) AllReadyH.nil
                go_simp
                refine hK.out _ _ (HX.out _ (by first | exact gb_step hgw (gb_set _ _ _ _ _) (by omega) | exact gb_trans hgw (gb_drew _ _) | exact hgw | exact gb_trans (gb_trans hg (gb_drew _ _)) (gb_alloc _ _ _) | exact gb_trans hg (gb_drew _ _) | exact gb_trans (gb_trans hg (gb_alloc _ _ _)) (gb_drew _ _) | exact gb_trans (gb_trans (gb_trans hg (gb_drew _ _)) (gb_alloc _ _ _)) (gb_drew _ _))) (fun hHeld => ?_)
                clear hK K
                try simp only [Act.put, List.setIfInBounds_toArray, List.set_cons_zero, List.set_cons_succ]
                refine wpAnyH_done (by kernel_rfl) ?_ _
                refine NoPanic.normal ?_
                go_wp2
                go_roundw
                case rel => exact ⟨k + 1, by omega, by go_num, by first | exact HF.out _ _ _ hown1 hgg | exact HF.out _ _ _ (World.ownsRow.drew hown1) (gb_trans hgg (gb_drew _ _))⟩
                case measure => simp [intOf]; omega
          · have hin2 : ¬ (q : Int) < (cs.length : Int) := by omega
            have hne := World.new_ne wr ⟨w.heap.size + 1, 0, none⟩ c0
            have hbit : wentB cs k = false := by
              unfold wentB
              rw [Hq.out]
              simp [hin]
            have hfin : ∀ (w1 : World) (g capg : Nat), w1.ownsRow (w.heap.size + 2) 4 1 (.slice (some ⟨g, 0, none⟩) (k + 1) capg) (k + 1) (bools (cameF cs k) ++ [.bool false]) → wr.grownBy w1 (Value.slice aov k cap).ownBlock → Making w (w1.setCell ⟨w.heap.size + 1, 0, none⟩ (.slice (some ⟨g, 0, none⟩) (k + 1) capg)) (w.heap.size + 1) w.heap.size (cameF cs (k + 1)) (-1) 0 := by
              intro w1 g capg h1 h2
              refine ⟨_, (bf.keep h2 (own_far own (by omega))).set 0 _, (br.keep h2 (own_far own (by omega))).keep (gb_set _ _ _ _ _) (ne_some (by omega)), own_set (owns_cast h1 (by rw [cameF_length]) (by rw [cameF_succ, bools_snoc, hbit])) (by omega) _, gb_step (gb_own2 hg own (by omega) h2) (gb_set _ _ _ _ _) (by simp)⟩
            have HF := Lib.hid hfin
            clear hfin hbit
            have hS : ∀ w', wr.grownBy w' (Value.slice aov k cap).ownBlock → w'.frozen? ⟨w.heap.size + 1, 0, none⟩ = false := fun w' g => (bf.keep g (own_far own (by omega))).free 0
            have hS2 : ∀ w' vs, Blk w' (w.heap.size + 1) 25 vs → w'.frozen? ⟨w.heap.size + 1, 0, none⟩ = false := fun w' vs b => b.free 0
            have HS2 := Lib.hid hS2
            clear hS2
            have HS := Lib.hid hS
            clear hS
            go_upto_region 11 with fail
            refine wp_region_noPanic ?_
            refine wp_region_held_drew (S := fun _ => True) (by kernel_rfl) trivial (fun _ => ?_)
            refine wpAnyH_take (i := 0) (v := ?_) (List.getElem?_toArray.trans rfl) (by kernel_rfl) (by kernel_rfl) (by kernel_rfl) (fun _ _ _ h => h) (Or.inl ⟨by rfl, ?_⟩) trivial ?_
            rotate_left
            · intro w' _; go_simp; try with_reducible rfl
            simp only [Act.put, List.setIfInBounds_toArray, List.set_cons_zero, List.set_cons_succ]
            refine wpAnyH_take (i := 2) (v := ?_) (List.getElem?_toArray.trans rfl) (by kernel_rfl) (by kernel_rfl) (by kernel_rfl) (fun _ _ _ h => h) (Or.inl ⟨by rfl, ?_⟩) trivial ?_
            rotate_left
            · intro w' _; go_simp; try with_reducible rfl
            simp only [Act.put, List.setIfInBounds_toArray, List.set_cons_zero, List.set_cons_succ]
            refine wpAnyH_take (i := 3) (v := ?_) (List.getElem?_toArray.trans rfl) (by kernel_rfl) (by kernel_rfl) (by kernel_rfl) (fun _ _ _ h => h) (Or.inl ⟨by rfl, ?_⟩) trivial ?_
            rotate_left
            · intro w' _; go_simp; try with_reducible rfl
            simp only [Act.put, List.setIfInBounds_toArray, List.set_cons_zero, List.set_cons_succ]
            refine wpAnyH_take (i := 4) (v := ?_) (List.getElem?_toArray.trans rfl) (by kernel_rfl) (by kernel_rfl) (by kernel_rfl) (fun _ _ _ h => h) (Or.inl ⟨by rfl, ?_⟩) trivial ?_
            rotate_left
            · intro w' _; go_simp; try with_reducible rfl
            simp only [Act.put, List.setIfInBounds_toArray, List.set_cons_zero, List.set_cons_succ]
            refine wpAnyH_take (i := 5) (v := ?_) (List.getElem?_toArray.trans rfl) (by kernel_rfl) (by kernel_rfl) (by kernel_rfl) (fun _ _ _ h => h) (Or.inl ⟨by rfl, ?_⟩) trivial ?_
            rotate_left
            · intro w' _; go_simp; try with_reducible rfl
            simp only [Act.put, List.setIfInBounds_toArray, List.set_cons_zero, List.set_cons_succ]
            refine wpAnyH_take (i := 6) (v := ?_) (List.getElem?_toArray.trans rfl) (by kernel_rfl) (by kernel_rfl) (by kernel_rfl) (fun _ _ _ h => h) (Or.inl ⟨by rfl, ?_⟩) trivial ?_
            rotate_left
            · intro w' _; go_simp; try with_reducible rfl
            simp only [Act.put, List.setIfInBounds_toArray, List.set_cons_zero, List.set_cons_succ]
            refine wpAnyH_take (i := 7) (v := ?_) (List.getElem?_toArray.trans rfl) (by kernel_rfl) (by kernel_rfl) (by kernel_rfl) (fun _ _ _ h => h) (Or.inl ⟨by rfl, ?_⟩) trivial ?_
            rotate_left
            · intro w' _; go_simp; try with_reducible rfl
            simp only [Act.put, List.setIfInBounds_toArray, List.set_cons_zero, List.set_cons_succ]
            refine wpAnyH_take (i := 8) (v := undef) (List.getElem?_toArray.trans rfl) (by kernel_rfl) (by kernel_rfl) (by kernel_rfl) (fun _ _ _ h => h) (Or.inr ⟨by rfl, rfl⟩) trivial ?_
            simp only [Act.put, List.setIfInBounds_toArray, List.set_cons_zero, List.set_cons_succ]
            refine wpAnyH_take (i := 9) (v := undef) (List.getElem?_toArray.trans rfl) (by kernel_rfl) (by kernel_rfl) (by kernel_rfl) (fun _ _ _ h => h) (Or.inr ⟨by rfl, rfl⟩) trivial ?_
            simp only [Act.put, List.setIfInBounds_toArray, List.set_cons_zero, List.set_cons_succ]
            refine wpAnyH_take (i := 10) (v := undef) (List.getElem?_toArray.trans rfl) (by kernel_rfl) (by kernel_rfl) (by kernel_rfl) (fun _ _ _ h => h) (Or.inr ⟨by rfl, rfl⟩) trivial ?_
            simp only [Act.put, List.setIfInBounds_toArray, List.set_cons_zero, List.set_cons_succ]
            refine wpAnyH_take (i := 11) (v := undef) (List.getElem?_toArray.trans rfl) (by kernel_rfl) (by kernel_rfl) (by kernel_rfl) (fun _ _ _ h => h) (Or.inr ⟨by rfl, rfl⟩) trivial ?_
            simp only [Act.put, List.setIfInBounds_toArray, List.set_cons_zero, List.set_cons_succ]
            refine wpAnyH_take (i := 12) (v := undef) (List.getElem?_toArray.trans rfl) (by kernel_rfl) (by kernel_rfl) (by kernel_rfl) (fun _ _ _ h => h) (Or.inr ⟨by rfl, rfl⟩) trivial ?_
            simp only [Act.put, List.setIfInBounds_toArray, List.set_cons_zero, List.set_cons_succ]
            refine wpAnyH_take (i := 13) (v := undef) (List.getElem?_toArray.trans rfl) (by kernel_rfl) (by kernel_rfl) (by kernel_rfl) (fun _ _ _ h => h) (Or.inr ⟨by rfl, rfl⟩) trivial ?_
            simp only [Act.put, List.setIfInBounds_toArray, List.set_cons_zero, List.set_cons_succ]
            refine wpAnyH_take (i := 14) (v := undef) (List.getElem?_toArray.trans rfl) (by kernel_rfl) (by kernel_rfl) (by kernel_rfl) (fun _ _ _ h => h) (Or.inr ⟨by rfl, rfl⟩) trivial ?_
            simp only [Act.put, List.setIfInBounds_toArray, List.set_cons_zero, List.set_cons_succ]
            refine wpAnyH_take (i := 15) (v := undef) (List.getElem?_toArray.trans rfl) (by kernel_rfl) (by kernel_rfl) (by kernel_rfl) (fun _ _ _ h => h) (Or.inr ⟨by rfl, rfl⟩) trivial ?_
            simp only [Act.put, List.setIfInBounds_toArray, List.set_cons_zero, List.set_cons_succ]
            refine wpAnyH_take (i := 16) (v := undef) (List.getElem?_toArray.trans rfl) (by kernel_rfl) (by kernel_rfl) (by kernel_rfl) (fun _ _ _ h => h) (Or.inr ⟨by rfl, rfl⟩) trivial ?_
            simp only [Act.put, List.setIfInBounds_toArray, List.set_cons_zero, List.set_cons_succ]
            refine wpAnyH_take (i := 17) (v := ?_) (List.getElem?_toArray.trans rfl) (by kernel_rfl) (by kernel_rfl) (by kernel_rfl) (fun _ _ _ h => h) (Or.inl ⟨by rfl, ?_⟩) trivial ?_
            rotate_left
            · intro w' _; go_simp; try with_reducible rfl
            simp only [Act.put, List.setIfInBounds_toArray, List.set_cons_zero, List.set_cons_succ]
            refine wpAnyH_ready (rs := [1, 18]) (by kernel_rfl) (by simp) ?_
            refine AllReadyH.cons (List.getElem?_toArray.trans rfl) (fun K hK => ?_) (AllReadyH.cons (List.getElem?_toArray.trans rfl) (fun K hK => ?_) AllReadyH.nil)
            · go_simp
              refine hK.out _ _ trivial (fun _ => ?_)
              clear hK K
              try simp only [Act.put, List.setIfInBounds_toArray, List.set_cons_zero, List.set_cons_succ]
              refine wpAnyH_ready (rs := [18]) (by kernel_rfl) (by simp) ?_
              refine AllReadyH.cons (List.getElem?_toArray.trans rfl) (fun K hK => ?_) AllReadyH.nil
              go_simp
              refine hK.out _ _ trivial (fun _ => ?_)
              clear hK K
              try simp only [Act.put, List.setIfInBounds_toArray, List.set_cons_zero, List.set_cons_succ]
              refine wpAnyH_ready (rs := [19]) (by kernel_rfl) (by simp) ?_
              refine AllReadyH.cons (List.getElem?_toArray.trans rfl) (fun K hK => ?_) AllReadyH.nil
              refine step_append_lies _ (by rfl) _ _ 23 (by rfl) (w.heap.size + 2) 4 i0 (.bool false) 1 1 Tryd.underlying23 hi hz0 hz1 hz2 (by rfl) (by decide) (.slice aov k cap) k (bools (cameF cs k)) (by rfl) (own.kept (row := none) (by first | exact gb_alloc _ _ _ | exact gb_trans (gb_drew _ _) (gb_alloc _ _ _) | exact gb_trans (gb_alloc _ _ _) (gb_drew _ _) | exact gb_trans (gb_trans (gb_drew _ _) (gb_alloc _ _ _)) (gb_drew _ _)) (by cases aov <;> simp [Value.ownBlock])) ⟨wr.heap.size, 0, none⟩ 1 1 [.bool false] (by rfl) (by rfl) (by exact cell_one_new _ _ _) (one_bool _) (by omega) (by unfold maxLen; omega) (by omega) (by simp; omega) _ rfl ?_; intro g capg w1 hown1 hgrow hat hlt1; have hgg : wr.grownBy w1 (Value.slice aov k cap).ownBlock := (by refine gb_trans ?_ hgrow; first | exact gb_alloc _ _ _ | exact gb_trans (gb_drew _ _) (gb_alloc _ _ _) | exact gb_trans (gb_alloc _ _ _) (gb_drew _ _) | exact gb_trans (gb_trans (gb_drew _ _) (gb_alloc _ _ _)) (gb_drew _ _)); have c1 := (bf.keep hgg (own_far own (by omega))).cell 0 rfl; have f1 := (bf.keep hgg (own_far own (by omega))).free 0
              refine hK.out _ _ trivial (fun _ => ?_)
              clear hK K
              try simp only [Act.put, List.setIfInBounds_toArray, List.set_cons_zero, List.set_cons_succ]
              refine wpAnyH_take (i := 20) (v := ?_) (List.getElem?_toArray.trans rfl) (by kernel_rfl) (by kernel_rfl) (by kernel_rfl) (fun _ _ _ h => h) (Or.inl ⟨by rfl, ?_⟩) trivial ?_
              rotate_left
              · intro w' _; go_simp; try with_reducible rfl
              try simp only [Act.put, List.setIfInBounds_toArray, List.set_cons_zero, List.set_cons_succ]
              refine wpAnyH_ready (rs := [21]) (by kernel_rfl) (by simp) ?_
              refine AllReadyH.cons (List.getElem?_toArray.trans rfl) (fun K hK => ?_) AllReadyH.nil
              go_simp
              refine hK.out _ _ trivial (fun _ => ?_)
              clear hK K
              try simp only [Act.put, List.setIfInBounds_toArray, List.set_cons_zero, List.set_cons_succ]
              refine wpAnyH_done (by kernel_rfl) ?_ _
              refine NoPanic.normal ?_
              go_wp2
              go_roundw
              case rel => exact ⟨k + 1, by omega, by go_num, by first | exact HF.out _ _ _ hown1 hgg | exact HF.out _ _ _ (World.ownsRow.drew hown1) (gb_trans hgg (gb_drew _ _))⟩
              case measure => simp [intOf]; omega
            · go_simp
              refine hK.out _ _ trivial (fun _ => ?_)
              clear hK K
              try simp only [Act.put, List.setIfInBounds_toArray, List.set_cons_zero, List.set_cons_succ]
              refine wpAnyH_ready (rs := [1]) (by kernel_rfl) (by simp) ?_
              refine AllReadyH.cons (List.getElem?_toArray.trans rfl) (fun K hK => ?_) AllReadyH.nil
              go_simp
              refine hK.out _ _ trivial (fun _ => ?_)
              clear hK K
              try simp only [Act.put, List.setIfInBounds_toArray, List.set_cons_zero, List.set_cons_succ]
              refine wpAnyH_ready (rs := [19]) (by kernel_rfl) (by simp) ?_
              refine AllReadyH.cons (List.getElem?_toArray.trans rfl) (fun K hK => ?_) AllReadyH.nil
              refine step_append_lies _ (by rfl) _ _ 23 (by rfl) (w.heap.size + 2) 4 i0 (.bool false) 1 1 Tryd.underlying23 hi hz0 hz1 hz2 (by rfl) (by decide) (.slice aov k cap) k (bools (cameF cs k)) (by rfl) (own.kept (row := none) (by first | exact gb_alloc _ _ _ | exact gb_trans (gb_drew _ _) (gb_alloc _ _ _) | exact gb_trans (gb_alloc _ _ _) (gb_drew _ _) | exact gb_trans (gb_trans (gb_drew _ _) (gb_alloc _ _ _)) (gb_drew _ _)) (by cases aov <;> simp [Value.ownBlock])) ⟨wr.heap.size, 0, none⟩ 1 1 [.bool false] (by rfl) (by rfl) (by exact cell_one_new _ _ _) (one_bool _) (by omega) (by unfold maxLen; omega) (by omega) (by simp; omega) _ rfl ?_; intro g capg w1 hown1 hgrow hat hlt1; have hgg : wr.grownBy w1 (Value.slice aov k cap).ownBlock := (by refine gb_trans ?_ hgrow; first | exact gb_alloc _ _ _ | exact gb_trans (gb_drew _ _) (gb_alloc _ _ _) | exact gb_trans (gb_alloc _ _ _) (gb_drew _ _) | exact gb_trans (gb_trans (gb_drew _ _) (gb_alloc _ _ _)) (gb_drew _ _)); have c1 := (bf.keep hgg (own_far own (by omega))).cell 0 rfl; have f1 := (bf.keep hgg (own_far own (by omega))).free 0
              refine hK.out _ _ trivial (fun _ => ?_)
              clear hK K
              try simp only [Act.put, List.setIfInBounds_toArray, List.set_cons_zero, List.set_cons_succ]
              refine wpAnyH_take (i := 20) (v := ?_) (List.getElem?_toArray.trans rfl) (by kernel_rfl) (by kernel_rfl) (by kernel_rfl) (fun _ _ _ h => h) (Or.inl ⟨by rfl, ?_⟩) trivial ?_
              rotate_left
              · intro w' _; go_simp; try with_reducible rfl
              try simp only [Act.put, List.setIfInBounds_toArray, List.set_cons_zero, List.set_cons_succ]
              refine wpAnyH_ready (rs := [21]) (by kernel_rfl) (by simp) ?_
              refine AllReadyH.cons (List.getElem?_toArray.trans rfl) (fun K hK => ?_) AllReadyH.nil
              go_simp
              refine hK.out _ _ trivial (fun _ => ?_)
              clear hK K
              try simp only [Act.put, List.setIfInBounds_toArray, List.set_cons_zero, List.set_cons_succ]
              refine wpAnyH_done (by kernel_rfl) ?_ _
              refine NoPanic.normal ?_
              go_wp2
              go_roundw
              case rel => exact ⟨k + 1, by omega, by go_num, by first | exact HF.out _ _ _ hown1 hgg | exact HF.out _ _ _ (World.ownsRow.drew hown1) (gb_trans hgg (gb_drew _ _))⟩
              case measure => simp [intOf]; omega
    · obtain rfl : k = N := by omega
      have c1 := bf.cell 1 rfl
      have c2 := bf.cell 2 rfl
      obtain ⟨p, hp⟩ : ∃ p, (k + 7) / 8 = p := ⟨_, rfl⟩
      have hp9 : p ≤ 512 := by omega
      have hw7 : IntKind.i64.wrap ((k : Int) + 7) = (k : Int) + 7 := IntWalk.i64_in _ (by omega)
      have hw8 : IntKind.i64.wrap (((k : Int) + 7) / 8) = (p : Int) := by
        rw [show ((k : Int) + 7) / 8 = (p : Int) by omega]
        exact IntWalk.i64_in _ (by omega)
      have hw3 : IntKind.i64.wrap ((p : Int) + 3) = (p : Int) + 3 := IntWalk.i64_in _ (by omega)
      have hpe : ((k : Int) + 7) / 8 = (p : Int) := by omega
      have Hp := Lib.hid hp
      clear hp
      have hbls : Bls wr (.slice aov k cap) (cameF cs k) := by
        have := Sl.of_owns own
        unfold Bls
        rw [cameF_length]
        exact this
      have hfin : ∀ w2 : World, wr.grownBy w2 none → tornB cs k = false → FateGot w (cameF cs (manyN n)) (tornF cs (manyN n)) (atF cs (manyN n)) (.returned (.agg #[.slice aov k cap, .int .i64 (-1), .int .i64 0])) (((w2.setCell ⟨w.heap.size, 0, none⟩ (.slice aov k cap)).setCell ⟨w.heap.size, 1, none⟩ (.int .i64 (-1))).setCell ⟨w.heap.size, 2, none⟩ (.int .i64 0)) := by
        intro w2 g2 ht
        have own2 := own.kept g2 (by cases aov <;> simp [Value.ownBlock])
        have e1 : tornF cs k = -1 := by unfold tornF; rw [ht]; rfl
        have e2 : atF cs k = 0 := by unfold atF; rw [ht]; rfl
        rw [HNe.out, e1, e2]
        exact ⟨_, rfl, Sl.of_owns (owns_cast (own_set (own_set (own_set own2 (by omega) _) (by omega) _) (by omega) _) (by rw [cameF_length]) rfl), gb_step (gb_step (gb_step (gb_trans hg g2) (gb_set _ _ _ _ _) (by omega)) (gb_set _ _ _ _ _) (by omega)) (gb_set _ _ _ _ _) (by omega)⟩
      have HF := Lib.hid hfin
      clear hfin
      obtain ⟨M, hM⟩ : ∃ M, (cameTo (cameF cs k) k).length = M := ⟨_, rfl⟩
      have hMk : M ≤ k := by rw [← hM]; exact cameTo_le _ _
      have Hown := Lib.hid own
      clear own
      by_cases h3 : p + 3 ≤ cs.length
      · have h3' : (p : Int) + 3 ≤ (cs.length : Int) := by omega
        have hp0 : (0 : Int) ≤ (p : Int) := by omega
        have hpl : (p : Int) < (cs.length : Int) := by omega
        cases ao with
        | none => have := (HN.out rfl).1; omega
        | some x =>
          have hcx0 := HA.out x rfl p _ (bytes_at (show p < cs.length by omega))
          have x0 := hg.cell hcx0 (by simp)
          generalize hcb : cs.getD p 0 = c at hcx0 x0
          have hc256 := c.toNat_lt
          have Hc := Lib.hid hcb
          clear hcb
          by_cases h128 : c.toNat < 128
          · have h128' : (c.toNat : Int) < 128 := by omega
            by_cases hM0 : 0 < M
            · have hM0' : (0 : Int) < (M : Int) := by omega
              have hMz : ((M : Int) == 0) = false := beq_eq_false_iff_ne.2 (by omega)
              have hMn : ¬ M = 0 := by omega
              obtain ⟨r, hr⟩ : ∃ r, c.toNat % M = r := ⟨_, rfl⟩
              have hrM : r < M := by rw [← hr]; exact Nat.mod_lt _ hM0
              have hr1 : IntKind.i64.wrap ((c.toNat : Int) % (M : Int)) = (r : Int) := by
                rw [← Int.natCast_emod, hr]
                exact IntWalk.i64_in _ (by omega)
              have hre : (c.toNat : Int) % (M : Int) = (r : Int) := by rw [← Int.natCast_emod, hr]
              have hrt : (c.toNat : Int).tmod (M : Int) = (r : Int) := by rw [Int.tmod_eq_emod_of_nonneg (by omega)]; exact hre
              have hr2 : IntKind.i64.wrap ((c.toNat : Int).tmod (M : Int)) = (r : Int) := by
                rw [Int.tmod_eq_emod_of_nonneg (by omega)]; exact hr1
              have hr0 : (0 : Int) ≤ (r : Int) := by omega
              have hrl : (r : Int) < (M : Int) := by omega
              have hwc : IntKind.i64.wrap (c.toNat : Int) = (c.toNat : Int) := IntWalk.i64_in _ (by omega)
              obtain ⟨d, hd⟩ : ∃ d, (cameTo (cameF cs k) k).getD r 0 = d := ⟨_, rfl⟩
              obtain ⟨p1, hp1⟩ : ∃ p1, p + 1 = p1 := ⟨_, rfl⟩
              obtain ⟨p2, hp2⟩ : ∃ p2, p + 2 = p2 := ⟨_, rfl⟩
              have hy0 : (intsC (cameTo (cameF cs k) k))[r]? = some (.int .i64 (d : Nat)) := by rw [ints_at (by omega), hd]
              have HY := Lib.hid hy0
              have HR := Lib.hid (And.intro hr hd)
              clear hd hy0
              have HM := Lib.hid hM
              have Hb := Lib.hid (And.intro bf br)
              have Hbls := Lib.hid hbls
              clear hM hbls bf br
              go_upto_region 16 with (go_at_call 62; go_must (refine (refCame_any _ (cameF cs k) _ _ wr Hbls.out (by rw [cameF_length]; omega)).mono ?_; rintro e w2 ⟨v, rfl, hnts, g2⟩; rw [cameF_length] at hnts; unfold Nts at hnts; rw [HM.out] at hnts; obtain ⟨ao2, cap2, rfl, _, _, hn2, hx2⟩ := hnts; have bf2 := Hb.out.1.keep0 g2; have br2 := Hb.out.2.keep0 g2; have c0 := bf2.cell 0 rfl; have c1 := bf2.cell 1 rfl; have c2 := bf2.cell 2 rfl; have d0 := br2.cell 0 rfl; have d1 := br2.cell 1 rfl; have d2 := br2.cell 2 rfl; have e0 := br2.free 0; have e1 := br2.free 1; have e2 := br2.free 2; have x0 := (gb_trans hg g2).cell hcx0 (by simp); obtain ⟨y, rfl⟩ : ∃ y, ao2 = some y := (by cases ao2 with | none => exact absurd (hn2 rfl).1 (by omega) | some y => exact ⟨y, rfl⟩); have y0 := hx2 y rfl r _ HY.out; clear hx2 hn2; have b1f := bf2.free 1))
              have b3 := bf2.set 1 (.int .i64 (d : Nat))
              have g3 : w.grownBy (w2.setCell ⟨w.heap.size + 1, 1, none⟩ (.int .i64 (d : Nat))) none := gb_step (gb_trans hg g2) (gb_set _ _ _ _ _) (by omega)
              have r3 := br2.keep (gb_set w2 (w.heap.size + 1) 1 none (.int .i64 (d : Nat))) (ne_some (by omega))
              have own3 := own_set (b := w.heap.size + 1) (k := 1) (Hown.out.kept g2 (by cases aov <;> simp [Value.ownBlock])) (by omega) (.int .i64 (d : Nat))
              clear c0 c1 c2 d0 d1 d2 e0 e1 e2 x0 y0 b1f
              generalize w2.setCell ⟨w.heap.size + 1, 1, none⟩ (.int .i64 (d : Nat)) = w3 at b3 g3 r3 own3 ⊢
              simp only [List.setIfInBounds_toArray, List.set_cons_zero, List.set_cons_succ] at b3
              have c2 := b3.cell 2 rfl
              have f2 := b3.free 2
              have z1 := HA.out x rfl p1 _ (bytes_at (show p1 < cs.length by omega))
              have z2 := HA.out x rfl p2 _ (bytes_at (show p2 < cs.length by omega))
              generalize hb1 : cs.getD p1 0 = u1 at z1
              generalize hb2 : cs.getD p2 0 = u2 at z2
              have hu1 := u1.toNat_lt
              have hu2 := u2.toNat_lt
              have HB := Lib.hid (And.intro hb1 hb2)
              clear hb1 hb2
              obtain ⟨a, ha⟩ : ∃ a, (256 * u1.toNat + u2.toNat) % 257 = a := ⟨_, rfl⟩
              have i1 : IntKind.i64.wrap ((p : Int) + 1) = (p1 : Int) := by
                rw [show (p : Int) + 1 = (p1 : Int) by omega]
                exact IntWalk.i64_in _ (by omega)
              have i2 : IntKind.i64.wrap ((p : Int) + 2) = (p2 : Int) := by
                rw [show (p : Int) + 2 = (p2 : Int) by omega]
                exact IntWalk.i64_in _ (by omega)
              have i3 : (p : Int) + 1 = (p1 : Int) := by omega
              have i4 : (p : Int) + 2 = (p2 : Int) := by omega
              have i9 : p1 < cs.length := by omega
              have i10 : p2 < cs.length := by omega
              have i11 : (p : Int) + 1 < (cs.length : Int) := by omega
              have i12 : (p : Int) + 2 < (cs.length : Int) := by omega
              have i13 : (0 : Int) ≤ (p : Int) + 1 := by omega
              have i14 : (0 : Int) ≤ (p : Int) + 2 := by omega
              have i5 : (0 : Int) ≤ (p1 : Int) := by omega
              have i6 : (0 : Int) ≤ (p2 : Int) := by omega
              have i7 : (p1 : Int) < (cs.length : Int) := by omega
              have i8 : (p2 : Int) < (cs.length : Int) := by omega
              have i15 : IntKind.i64.wrap (p1 : Int) = (p1 : Int) := IntWalk.i64_in _ (by omega)
              have i16 : IntKind.i64.wrap (p2 : Int) = (p2 : Int) := IntWalk.i64_in _ (by omega)
              have i17 : IntKind.i64.wrap (a : Int) = (a : Int) := IntWalk.i64_in _ (by omega)
              have j1 : IntKind.i64.wrap (u1.toNat : Int) = (u1.toNat : Int) := IntWalk.i64_in _ (by omega)
              have j2 : IntKind.i64.wrap (u2.toNat : Int) = (u2.toNat : Int) := IntWalk.i64_in _ (by omega)
              have j3 : IntKind.i64.wrap (256 * (u1.toNat : Int)) = 256 * (u1.toNat : Int) := IntWalk.i64_in _ (by omega)
              have j4 : IntKind.i64.wrap (256 * (u1.toNat : Int) + (u2.toNat : Int)) = 256 * (u1.toNat : Int) + (u2.toNat : Int) := IntWalk.i64_in _ (by omega)
              have j5 : (256 * (u1.toNat : Int) + (u2.toNat : Int)) % 257 = (a : Int) := by omega
              have j7 : (256 * (u1.toNat : Int) + (u2.toNat : Int)).tmod 257 = (a : Int) := by rw [Int.tmod_eq_emod_of_nonneg (by omega)]; exact j5
              have j6 : IntKind.i64.wrap ((256 * (u1.toNat : Int) + (u2.toNat : Int)) % 257) = (a : Int) := by rw [j5]; exact IntWalk.i64_in _ (by omega)
              have Ha := Lib.hid ha
              clear ha
              have hS : ∀ w' vs, w.grownBy w' none → Blk w' (w.heap.size + 1) 25 vs → w'.cell? (x.add p1) = some (.int .u8 (u1.toNat : Nat)) ∧ w'.cell? (x.add p2) = some (.int .u8 (u2.toNat : Nat)) ∧ w'.frozen? ⟨w.heap.size + 1, 2, none⟩ = false := fun w' vs g b => ⟨g.cell z1 (by simp), g.cell z2 (by simp), b.free 2⟩
              have HS := Lib.hid hS
              clear hS z1 z2
              have b4 := (b3.set 2 (.int .i64 (a : Nat))).keep0 (gb_drew _ none)
              have g4 : w.grownBy (w3.setCell ⟨w.heap.size + 1, 2, none⟩ (.int .i64 (a : Nat))).drew none := gb_trans (gb_step g3 (gb_set _ _ _ _ _) (by omega)) (gb_drew _ _)
              have r4 := (r3.keep (gb_set w3 (w.heap.size + 1) 2 none (.int .i64 (a : Nat))) (ne_some (by omega))).keep0 (gb_drew _ none)
              have own4 := (own_set (b := w.heap.size + 1) (k := 2) own3 (by omega) (.int .i64 (a : Nat))).drew
              go_region_held3 (fun w' => w'.cell? (x.add p1) = some (.int .u8 (u1.toNat : Nat)) ∧ w'.cell? (x.add p2) = some (.int .u8 (u2.toNat : Nat)) ∧ w'.frozen? ⟨w.heap.size + 1, 2, none⟩ = false) ((first | exact HS.out _ _ (gb_trans g3 (gb_drew _ _)) (b3.keep0 (gb_drew _ _)) | exact HS.out _ _ g4 b4 | exact HS.out _ _ (gb_step (gb_trans g3 (gb_drew _ _)) (gb_set _ _ _ _ _) (by omega)) ((b3.keep0 (gb_drew _ _)).set _ _))) (fail)
              generalize (w3.setCell ⟨w.heap.size + 1, 2, none⟩ (.int .i64 (a : Nat))).drew = w4 at b4 g4 r4 own4 ⊢
              simp only [List.setIfInBounds_toArray, List.set_cons_zero, List.set_cons_succ] at b4
              clear c2 f2 b3 g3 r3 own3
              have htb : tornB cs k = true := by
                unfold tornB
                rw [Hp.out, Hc.out, HM.out]
                simp only [h3, h128, hM0, decide_true, Bool.and_self]
              have q1 : tornF cs k = (d : Int) := by
                unfold tornF
                rw [htb, if_pos rfl, Hp.out, Hc.out, HM.out, HR.out.1, HR.out.2]
              have q2 : atF cs k = (a : Int) := by
                unfold atF
                rw [htb, if_pos rfl, Hp.out, hp1, hp2, HB.out.1, HB.out.2, Ha.out]
              have c0 := b4.cell 0 rfl
              have c1 := b4.cell 1 rfl
              have c2 := b4.cell 2 rfl
              have d0 := r4.cell 0 rfl
              have d1 := r4.cell 1 rfl
              have d2 := r4.cell 2 rfl
              have e0 := r4.free 0
              have e1 := r4.free 1
              have e2 := r4.free 2
              go_wp2
              have bd := ((r4.set 0 (.slice aov k cap)).set 1 (.int .i64 (d : Nat))).set 2 (.int .i64 (a : Nat))
              have r0 := bd.cell 0 rfl
              have r1 := bd.cell 1 rfl
              have r2 := bd.cell 2 rfl
              have hlast : FateGot w (cameF cs (manyN n)) (tornF cs (manyN n)) (atF cs (manyN n)) (.returned (.agg #[.slice aov k cap, .int .i64 (d : Nat), .int .i64 (a : Nat)])) (((w4.setCell ⟨w.heap.size, 0, none⟩ (.slice aov k cap)).setCell ⟨w.heap.size, 1, none⟩ (.int .i64 (d : Nat))).setCell ⟨w.heap.size, 2, none⟩ (.int .i64 (a : Nat))) := by
                rw [HNe.out, q1, q2]
                exact ⟨_, rfl, Sl.of_owns (owns_cast (own_set (own_set (own_set own4 (by omega) _) (by omega) _) (by omega) _) (by rw [cameF_length]) rfl), gb_step (gb_step (gb_step g4 (gb_set _ _ _ _ _) (by omega)) (gb_set _ _ _ _ _) (by omega)) (gb_set _ _ _ _ _) (by omega)⟩
              refine bodyPost_ret (v := .agg #[.slice aov k cap, .int .i64 (d : Nat), .int .i64 (a : Nat)]) ?_ rfl hlast
              clear hlast bd
              simp [results, Tryd.results49, go_sem, r0, r1, r2]
            · have hM0' : ¬ (0 : Int) < (M : Int) := by omega
              have htb : tornB cs k = false := by
                unfold tornB
                rw [Hp.out, Hc.out, hM]
                simp [hM0]
              have HM := Lib.hid hM
              have Hb := Lib.hid (And.intro bf br)
              have Hbls := Lib.hid hbls
              clear hM hbls bf br
              go_wp2_with (go_at_call 62; go_must (refine (refCame_any _ (cameF cs k) _ _ wr Hbls.out (by rw [cameF_length]; omega)).mono ?_; rintro e w2 ⟨v, rfl, hnts, g2⟩; rw [cameF_length] at hnts; unfold Nts at hnts; rw [HM.out] at hnts; obtain ⟨ao2, cap2, rfl, _, _, hn2, hx2⟩ := hnts; have bf2 := Hb.out.1.keep0 g2; have br2 := Hb.out.2.keep0 g2; have c0 := bf2.cell 0 rfl; have c1 := bf2.cell 1 rfl; have c2 := bf2.cell 2 rfl; have d0 := br2.cell 0 rfl; have d1 := br2.cell 1 rfl; have d2 := br2.cell 2 rfl; have e0 := br2.free 0; have e1 := br2.free 1; have e2 := br2.free 2; have x0 := (gb_trans hg g2).cell hcx0 (by simp)))
              have bd := ((br2.set 0 (.slice aov k cap)).set 1 (.int .i64 (-1))).set 2 (.int .i64 0)
              have r0 := bd.cell 0 rfl
              have r1 := bd.cell 1 rfl
              have r2 := bd.cell 2 rfl
              refine bodyPost_ret (v := .agg #[.slice aov k cap, .int .i64 (-1), .int .i64 0]) ?_ rfl (HF.out w2 g2 htb)
              clear bd
              simp [results, Tryd.results49, go_sem, r0, r1, r2]
          · have h128' : ¬ (c.toNat : Int) < 128 := by omega
            have htb : tornB cs k = false := by
              unfold tornB
              rw [Hp.out, Hc.out]
              simp only [h128, decide_false, Bool.false_and, Bool.and_false]
            have HM := Lib.hid hM
            have Hb := Lib.hid (And.intro bf br)
            have Hbls := Lib.hid hbls
            clear hM hbls bf br
            go_wp2_with (go_at_call 62; go_must (refine (refCame_any _ (cameF cs k) _ _ wr Hbls.out (by rw [cameF_length]; omega)).mono ?_; rintro e w2 ⟨v, rfl, hnts, g2⟩; rw [cameF_length] at hnts; unfold Nts at hnts; rw [HM.out] at hnts; obtain ⟨ao2, cap2, rfl, _, _, hn2, hx2⟩ := hnts; have bf2 := Hb.out.1.keep0 g2; have br2 := Hb.out.2.keep0 g2; have c0 := bf2.cell 0 rfl; have c1 := bf2.cell 1 rfl; have c2 := bf2.cell 2 rfl; have d0 := br2.cell 0 rfl; have d1 := br2.cell 1 rfl; have d2 := br2.cell 2 rfl; have e0 := br2.free 0; have e1 := br2.free 1; have e2 := br2.free 2; have x0 := (gb_trans hg g2).cell hcx0 (by simp)))
            have bd := ((br2.set 0 (.slice aov k cap)).set 1 (.int .i64 (-1))).set 2 (.int .i64 0)
            have r0 := bd.cell 0 rfl
            have r1 := bd.cell 1 rfl
            have r2 := bd.cell 2 rfl
            refine bodyPost_ret (v := .agg #[.slice aov k cap, .int .i64 (-1), .int .i64 0]) ?_ rfl (HF.out w2 g2 htb)
            clear bd
            simp [results, Tryd.results49, go_sem, r0, r1, r2]
      · have h3' : ¬ (p : Int) + 3 ≤ (cs.length : Int) := by omega
        have htb : tornB cs k = false := by unfold tornB; rw [Hp.out]; simp [h3]
        have HM := Lib.hid hM
        have Hb := Lib.hid (And.intro bf br)
        have Hbls := Lib.hid hbls
        clear hM hbls bf br
        go_wp2_with (go_at_call 62; go_must (refine (refCame_any _ (cameF cs k) _ _ wr Hbls.out (by rw [cameF_length]; omega)).mono ?_; rintro e w2 ⟨v, rfl, hnts, g2⟩; rw [cameF_length] at hnts; unfold Nts at hnts; rw [HM.out] at hnts; obtain ⟨ao2, cap2, rfl, _, _, hn2, hx2⟩ := hnts; have bf2 := Hb.out.1.keep0 g2; have br2 := Hb.out.2.keep0 g2; have c0 := bf2.cell 0 rfl; have c1 := bf2.cell 1 rfl; have c2 := bf2.cell 2 rfl; have d0 := br2.cell 0 rfl; have d1 := br2.cell 1 rfl; have d2 := br2.cell 2 rfl; have e0 := br2.free 0; have e1 := br2.free 1; have e2 := br2.free 2))
        have bd := ((br2.set 0 (.slice aov k cap)).set 1 (.int .i64 (-1))).set 2 (.int .i64 0)
        have r0 := bd.cell 0 rfl
        have r1 := bd.cell 1 rfl
        have r2 := bd.cell 2 rfl
        refine bodyPost_ret (v := .agg #[.slice aov k cap, .int .i64 (-1), .int .i64 0]) ?_ rfl (HF.out w2 g2 htb)
        clear bd
        simp [results, Tryd.results49, go_sem, r0, r1, r2]
end Go.Proofs.YtcoegaipojnndaaDoor

