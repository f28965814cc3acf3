/-
  Which fate choices tell (fate.Read), over this seat's translation; conditions: the table of masks reads as the program lays it, the numbers fit their kinds, the slice reads as a list of bytes.
-/
import Derived.Test.YtcoegaipojnndaaDoorFt5
namespace Go.Proofs.YtcoegaipojnndaaDoor
open Go.RowKit

theorem add_add (a : Addr) (i j : Nat) : (a.add i).add j = a.add (i + j) := by
  unfold Addr.add
  by_cases hi : i = 0
  · subst hi; simp
  · by_cases hj : j = 0
    · subst hj; simp [hi]
    · simp [hi, hj, Nat.add_assoc]
/-- The bytes behind some first ones. -/
theorem bts_drop {w : World} {a : Addr} {cs : List UInt8} (h : ∀ j u, (bytesC cs)[j]? = some u → w.cell? (a.add j) = some u) (s : Nat) (ca : Nat) (hca : cs.length ≤ ca) : Bts w (.slice (some (a.add s)) (cs.length - s) (ca - s)) (cs.drop s) := by
  refine ⟨some (a.add s), ca - s, by simp, by simp; omega, by simp [bytesC], (fun e => by cases e), ?_⟩
  intro x e j u hj
  cases e
  rw [add_add]
  refine h (s + j) u ?_
  rw [← hj]; simp [bytesC, List.getElem?_drop]
theorem torn_link (cs : List UInt8) (N : Nat) (h : (N + 7) / 8 + 3 ≤ cs.length) : tornT (cameF cs N) (cs.drop ((N + 7) / 8)) = tornF cs N ∧ atT (cameF cs N) (cs.drop ((N + 7) / 8)) = atF cs N := by
  have hg : ∀ k, (cs.drop ((N + 7) / 8)).getD k 0 = cs.getD ((N + 7) / 8 + k) 0 := fun k => by simp [List.getD, List.getElem?_drop]
  have hS : tornS (cameF cs N) (cs.drop ((N + 7) / 8)) = tornB cs N := by
    unfold tornS tornB
    rw [hg, cameF_length, Nat.add_zero]
    simp [h]
  unfold tornT tornF atT atF
  rw [hS, hg, hg, hg, cameF_length, Nat.add_zero]
  exact ⟨rfl, rfl⟩
theorem torn_none (cs : List UInt8) (N : Nat) (h : ¬ (N + 7) / 8 + 3 ≤ cs.length) : tornF cs N = -1 ∧ atF cs N = 0 := by
  have hS : tornB cs N = false := by unfold tornB; simp [h]
  unfold tornF atF
  rw [hS]
  exact ⟨rfl, rfl⟩
set_option maxRecDepth 100000 in
set_option maxHeartbeats 2000000 in
theorem read_any (vc : Value) (cs : List UInt8) (n : Int) (w : World) (hm : Masks w) (hv : Bts w vc cs) (h1 : -9223372036854775808 ≤ n) (h2 : n ≤ 9223372036854775807) :
    Calls Tryd.prog 9 #[vc, .int .i64 n] w (FateGot w (cameF cs (manyN n)) (tornF cs (manyN n)) (atF cs (manyN n))) := by
  have hN := manyN_le n
  have HBl := Lib.hid (blank_any n (w.alloc (.cells #[.slice none 0 0, .int .i64 0, .int .i64 0] 25)) h1 h2)
  generalize hNm : manyN n = N at *
  clear hNm
  have HV := Lib.hid hv
  have HM := Lib.hid hm
  obtain ⟨ao, ca, rfl, hca, _, hna, hxa⟩ := hv
  have HA := Lib.hid hxa
  have HA0 := Lib.hid hna
  clear hxa hna hm
  go_enter Tryd.func9, Tryd.ntmps9
  go_wp2_with fail
  go_at_call 36
  (with_reducible refine HBl.out.mono ?_)
  clear HBl
  rintro e w1 ⟨b, rfl, hb, kb, g1⟩
  have r0 := (Blk.mk w 25 #[.slice none 0 0, .int .i64 0, .int .i64 0]).keep0 g1
  have g0 := gb_trans (gb_alloc w (.cells #[.slice none 0 0, .int .i64 0, .int .i64 0] 25) none) g1
  simp only [World.size_alloc] at hb
  clear g1
  have hlb := kb.lt
  have hlr := r0.lt
  have f0 := (Blk.mk w1 25 #[.slice (some ⟨b, 0, none⟩) N N, .int .i64 (-1), .int .i64 0])
  have g2 := gb_alloc w1 (.cells #[.slice (some ⟨b, 0, none⟩) N N, .int .i64 (-1), .int .i64 0] 25) none
  have hF : Filling w w1.heap.size b (wentB cs) N 0 (w1.alloc (.cells #[.slice (some ⟨b, 0, none⟩) N N, .int .i64 (-1), .int .i64 0] 25)) :=
    ⟨by rw [firstF_zero]; exact kb.keep0 g2, f0, r0.keep0 g2, gb_trans g0 g2⟩
  clear kb r0 g0 f0 g2
  go_wp2_with fail
  generalize w1.alloc (.cells #[.slice (some ⟨b, 0, none⟩) N N, .int .i64 (-1), .int .i64 0] 25) = W0 at hF ⊢
  go_loopw [6, 13] (fun _ v wr => ∃ k : Nat, k ≤ N ∧ v = .int .i64 k ∧ Filling w w1.heap.size b (wentB cs) N k wr) (fun _ v _ => N - (intOf v).toNat)
  case atStart => exact ⟨0, by omega, rfl, hF⟩
  case round =>
    obtain ⟨k, hk, rfl, hf⟩ := hrel
    clear hF
    have hf' := hf
    obtain ⟨kb, f0, r0, g0⟩ := hf'
    have c0 := f0.cell 0 rfl
    by_cases hlt : k < N
    · have d0 := kb.cell k (firstF_at _ N k hlt)
      have e0 := kb.free k
      have HG := Lib.hid g0
      have HFl := Lib.hid hf
      clear hf kb f0 r0 g0
      go_wp2
      go_region_with (go_at_call 37; (with_reducible refine (isSet_any _ cs k _ (HM.out.keep0 (gb_trans HG.out (by first | exact gb_drew _ _ | exact gb_refl _ _))) (HV.out.keep0 (gb_trans HG.out (by first | exact gb_drew _ _ | exact gb_refl _ _))) (by omega)).mono ?_); rintro e w' ⟨rfl, g3⟩; have c03 := g3.cell (show wr.drew.cell? _ = _ from c0) (by simp); have d03 := g3.cell (show wr.drew.cell? _ = _ from d0) (by simp); have e03 := (HFl.out.1.keep0 (gb_trans (gb_drew _ _) g3)).free k)
      all_goals
        have hnew := (HFl.out.keep0 (gb_trans (gb_drew _ _) g3)).step (by omega) (by omega)
        go_wp2
        go_roundw
        case rel => exact ⟨k + 1, by omega, by go_num, hnew⟩
        case measure => simp [intOf]; omega
    · obtain rfl : k = N := by omega
      have c1 := f0.cell 1 rfl
      have c2 := f0.cell 2 rfl
      have r00 := r0.cell 0 rfl
      have r01 := r0.cell 1 rfl
      have r02 := r0.cell 2 rfl
      have e0 := r0.free 0
      have e1 := r0.free 1
      have e2 := r0.free 2
      by_cases h3 : (k + 7) / 8 + 3 ≤ cs.length
      · have hlink := torn_link cs k h3
        have hcam := firstF_all (wentB cs) k
        have HL := Lib.hid (And.intro hlink hcam)
        have HFl := Lib.hid hf
        obtain ⟨q, hq⟩ : ∃ q, (k + 7) / 8 = q := ⟨_, rfl⟩
        rw [hq] at h3
        have Hq := Lib.hid hq
        have hqd : decide ((cs.length : Int) < ((q : Nat) : Int) + 3) = false := by simp; omega
        have hq0 : (0 : Int) ≤ (q : Int) := by omega
        have hqb : q ≤ 513 := by omega
        have hw3 : IntKind.i64.wrap ((q : Int) + 3) = (q : Int) + 3 := IntWalk.i64_in _ (by omega)
        cases ao with
        | none => have := (HA0.out rfl).1; omega
        | some x =>
          have hKb : Blk wr b 4 (bools (cameF cs k)).toArray := by have := kb; rw [hcam] at this; exact this
          have hB1 : Bls wr (.slice (some ⟨b, 0, none⟩) k k) (cameF cs k) := bls_of_blk hKb (cameF_length cs k)
          have hB2 : Bts wr (.slice (some (x.add q)) (cs.length - q) (ca - q)) (cs.drop q) := (bts_drop (HA.out x rfl) q ca hca).keep0 g0
          have hTn : ∀ W, wr.grownBy W none → Calls Tryd.prog 38 #[.agg #[.slice (some ⟨b, 0, none⟩) k k, .int .i64 (-1), .int .i64 0], .slice (some (x.add q)) (cs.length - q) (ca - q)] W (TornGot W (.slice (some ⟨b, 0, none⟩) k k) (tornF cs k) (atF cs k)) := by
            intro W g
            have h := torn_any _ _ (cameF cs k) (cs.drop q) W (hB1.keep0 g) (hB2.keep0 g) (by rw [cameF_length]; omega) (by simp; omega)
            rw [← hq, hlink.1, hlink.2, hq] at h
            exact h
          have HTn := Lib.hid hTn
          have HKb := Lib.hid hKb
          have HG := Lib.hid g0
          have HR := Lib.hid r0
          clear hf hlink hcam kb g0 hq hB1 hB2 hTn hKb
          go_wp2_with (go_at_call 34; (with_reducible refine (sizeFor_any k _ (by omega)).mono ?_); rintro e w' ⟨he, rfl⟩; rw [Hq.out] at he; subst he)
          go_region_with (go_at_call 38; (with_reducible refine (HTn.out _ (gb_drew _ _)).mono ?_); rintro e w' ⟨rfl, g3⟩; have r3 := HR.out.keep0 (gb_trans (gb_drew _ _) g3); have r00 := r3.cell 0 rfl; have r01 := r3.cell 1 rfl; have r02 := r3.cell 2 rfl; have e0 := r3.free 0; have e1 := r3.free 1; have e2 := r3.free 2)
          all_goals
            have hne : b ≠ w.heap.size := by omega
            have hfin : FateGot w (cameF cs k) (tornF cs k) (atF cs k) (.returned (.agg #[.slice (some ⟨b, 0, none⟩) k k, .int .i64 (tornF cs k), .int .i64 (atF cs k)])) (((w'.setCell ⟨w.heap.size, 0, none⟩ (.slice (some ⟨b, 0, none⟩) k k)).setCell ⟨w.heap.size, 1, none⟩ (.int .i64 (tornF cs k))).setCell ⟨w.heap.size, 2, none⟩ (.int .i64 (atF cs k))) :=
              ⟨_, rfl, bls_of_blk (((HKb.out.keep0 (gb_trans (gb_drew _ _) g3)).keep (gb_set _ _ _ _ _) (ne_some hne)).keep (gb_set _ _ _ _ _) (ne_some hne) |>.keep (gb_set _ _ _ _ _) (ne_some hne)) (cameF_length cs k), gb_fill (gb_trans HG.out (gb_trans (gb_drew _ _) g3)) (Nat.le_refl _) _ _ _⟩
            have HFi := Lib.hid hfin
            clear hfin
            go_wp2
            exact bodyPost_ret (fate_row rfl _ _ w.heap.size _ _ _ rfl (blk_fill r3 _ _ _)) rfl HFi.out
      · have hfin := hf.done (by omega)
        have hT := torn_none cs k h3
        rw [show (List.range k).map (wentB cs) = cameF cs k from rfl] at hfin
        have HF := Lib.hid hfin
        have HT := Lib.hid hT
        obtain ⟨q, hq⟩ : ∃ q, (k + 7) / 8 = q := ⟨_, rfl⟩
        rw [hq] at h3
        have hqd : decide ((cs.length : Int) < ((q : Nat) : Int) + 3) = true := by simp; omega
        clear hf hfin hT kb g0
        go_wp2_with (go_at_call 34; (with_reducible refine (sizeFor_any k _ (by omega)).mono ?_); rintro e w' ⟨rfl, rfl⟩)
        rw [HT.out.1, HT.out.2]
        exact bodyPost_ret (fate_row rfl _ _ w.heap.size _ _ _ rfl (blk_fill r0 _ _ _)) rfl HF.out
end Go.Proofs.YtcoegaipojnndaaDoor

