/-
  What the document's Put is, over this seat's translation: P2.1's answer; conditions: the slice reads as a list of fields whose numbers fit.
-/
import Derived.Test.YtcifabichcjjjaaDoorVRef1
import Derived.IntWalk
import Derived.Deep.DeepCutAuto
import Derived.Deep.RegionHeld3
namespace Go.Proofs.YtcifabichcjjjaaDoor
open Go.RowKit

/-- What holds at each round's head. -/
def RPutRel (w : World) (l : List Fd) (v4 v5 : Value) (wr : World) : Prop :=
  ∃ (k : Nat) (acc : List UInt8), k ≤ l.length ∧ v5 = .int .i64 k ∧ v4 = .string ⟨acc.toArray⟩ ∧ w.grownBy wr none ∧ putS l = putGo (lastT (l.take k)) (l.drop k) acc ∧ acc.length ≤ 2010 * k
theorem rput_next {w w2 : World} {l : List Fd} {k : Nat} {acc : List UInt8} {f : Fd} {S : ByteArray} (hget : l[k]? = some f) (hP : putS l = putGo (lastT (l.take k)) (l.drop k) acc) (hR : refB f (lastT (l.take k)) = 0) (hacc : acc.length ≤ 2010 * k) (hg : w.grownBy w2 none) (hS : S = ⟨(acc ++ fieldB f).toArray⟩) :
    RPutRel w l (.string S) (.int .i64 ((k + 1 : Nat) : Int)) w2 := by
  have hfl := fieldB_length f (refB_zero hR).2.2.2.1
  have hk : k < l.length := (List.getElem?_eq_some_iff.1 hget).1
  refine ⟨k + 1, acc ++ fieldB f, by omega, rfl, by rw [hS], hg, ?_, by rw [List.length_append]; omega⟩
  rw [hP, lastT_take l k f hget, putGo_step l k f hget, if_pos hR]
theorem rput_bad {l : List Fd} {k : Nat} {acc : List UInt8} {f : Fd} {c : Nat} (hget : l[k]? = some f) (hP : putS l = putGo (lastT (l.take k)) (l.drop k) acc) (hR : refB f (lastT (l.take k)) = c) (hc : c ≠ 0) : putS l = ([], c) := by
  rw [hP, putGo_step l k f hget, hR, if_neg hc]

theorem cat3 (a : List UInt8) (c : UInt8) (nb : List UInt8) : (⟨a.toArray⟩ ++ ⟨#[c]⟩ ++ ⟨nb.toArray⟩ : ByteArray) = ⟨(a ++ ([c] ++ nb)).toArray⟩ := by
  apply ByteArray.ext; simp
theorem cat4 (a : List UInt8) (c : UInt8) (nb : List UInt8) (s : ByteArray) : (⟨a.toArray⟩ ++ ⟨#[c]⟩ ++ ⟨nb.toArray⟩ ++ s : ByteArray) = ⟨(a ++ ([c] ++ (nb ++ s.data.toList))).toArray⟩ := by
  apply ByteArray.ext; simp

set_option linter.unusedSimpArgs false in
set_option maxRecDepth 100000 in
set_option maxHeartbeats 4000000 in
theorem ref_put (v : Value) (l : List Fd) (w : World) (hv : Fs w v l) (hok : ∀ f ∈ l, f.ok) (hl : l.length ≤ 1000000) :
    Calls Tryd.prog 10 #[v] w (PutGot w l) := by
  obtain ⟨ao, cap, rfl, hcap, hnil, hcell⟩ := hv
  have HC := Lib.hid hcell
  have HN := Lib.hid hnil
  have HO := Lib.hid hok
  clear hcell hnil hok
  by_cases h32 : 32 < l.length
  · have HP := Lib.hid (show putS l = ([], 4) by rw [putS, if_pos h32])
    have h32' : 32 < (l.length : Int) := by omega
    go_enter Tryd.func10, Tryd.ntmps10
    go_wp2
    go_ret2
    refine ⟨?_, gb_refl _ _⟩
    rw [HP.out]
    rfl
  · have HP := Lib.hid (show putS l = putGo 0 l [] by rw [putS, if_neg h32])
    have h32' : (l.length : Int) ≤ 32 := by omega
    go_enter Tryd.func10, Tryd.ntmps10
    go_wp2
    go_loopw [4, 5, 6] (fun v4 v5 _ wr => RPutRel w l v4 v5 wr) (fun _ i _ _ => l.length - (intOf i).toNat)
    case atStart => exact ⟨0, [], by omega, rfl, rfl, gb_refl _ _, HP.out, by simp⟩
    case round =>
      obtain ⟨k, acc, hk, rfl, rfl, hg, hP, hacc⟩ := hrel
      have HP2 := Lib.hid hP
      clear hP
      by_cases hlt : k < l.length
      · rcases hf : l[k] with ⟨tag, text, n, s⟩
        have hget : l[k]? = some ⟨tag, text, n, s⟩ := by rw [List.getElem?_eq_getElem hlt, hf]
        cases ao with
        | none => have := (HN.out rfl).1; omega
        | some a =>
          have hcell' : ∀ j u, (fcells l)[j]? = some u → wr.cell? (a.add j) = some u := fun j u hj => hg.cell (HC.out a rfl j u hj) (by simp)
          obtain ⟨h0, h1, h2, h3⟩ := at_of hcell' hget
          obtain ⟨ht1, ht2, hnn, hss⟩ := HO.out _ (List.mem_of_getElem? hget)
          have HG := Lib.hid hget
          have HCW := Lib.hid hcell'
          have HB := Lib.hid (And.intro ht1 (And.intro ht2 hnn))
          clear hcell' hget hf ht1 ht2 hnn
          obtain ⟨w0, hw0⟩ : ∃ w0 : World, w0 = wr.alloc (.cells #[.int .i64 tag, .bool text, .int .u64 n, .string s] 29) := ⟨_, rfl⟩
          have k0 : Blk w0 wr.heap.size 29 #[.int .i64 tag, .bool text, .int .u64 n, .string s] := by rw [hw0]; exact Blk.mk _ _ _
          have g0 : wr.grownBy w0 none := by rw [hw0]; exact gb_alloc _ _ _
          have HW := Lib.hid hw0
          clear hw0
          go_wp2_with fail
          rw [← HW.out]
          have hmay := ref_may tag text n s w0
          obtain ⟨mb, hmb⟩ : ∃ mb, mb = mayB ⟨tag, text, n, s⟩ := ⟨_, rfl⟩
          rw [← hmb] at hmay
          have HMB := Lib.hid hmb
          clear hmb
          refine hmay.mono ?_
          clear hmay h0 h1 h2 h3
          rintro e w1 ⟨rfl, g1⟩
          have k1 := k0.keep0 g1
          have hg1 : w.grownBy w1 none := gb_trans hg (gb_trans g0 g1)
          have gr1 : wr.grownBy w1 none := gb_trans g0 g1
          have c0 := Blk.cell k1 0 rfl
          have c1 := Blk.cell k1 1 rfl
          have c2 := Blk.cell k1 2 rfl
          have c3 := Blk.cell k1 3 rfl
          cases mb with
          | false =>
            go_wp2
            go_ret2
            refine ⟨?_, hg1⟩
            have hR : refB ⟨tag, text, n, s⟩ (lastT (l.take k)) = 2 := by rw [refB, if_pos HMB.out.symm]
            rw [rput_bad HG.out HP2.out hR (by omega)]
            rfl
          | true =>
            obtain ⟨T, hT⟩ : ∃ T, T = lastT (l.take k) := ⟨_, rfl⟩
            have HT := Lib.hid hT
            clear hT
            have htag : 1 ≤ tag ∧ tag ≤ 63 := by
              have h := HMB.out
              by_cases q1 : tag < 1
              · rw [mayB_lo tag text n s q1] at h; cases h
              · by_cases q2 : 63 < tag
                · rw [mayB_hi tag text n s q2] at h; cases h
                · omega
            obtain ⟨ht1, ht2⟩ := htag
            go_upto_region 10 with (fail)
            go_cut [35] (fun s35 wx => s35 = .bool (decide (tag ≤ T)) ∧ w1.grownBy wx none)
            case first =>
              by_cases hk0 : k = 0
              · have hgd : decide (0 < k) = false := by simp; omega
                have hT0 : T = 0 := by rw [HT.out, hk0]; rfl
                have hTd : decide (tag ≤ T) = false := by rw [hT0]; simp; omega
                have HTD := Lib.hid hTd
                clear hk0 hT0 hTd
                go_quiet (fail)
                go_wp2_with fail
                go_meet
                exact ⟨by rw [HTD.out], gb_drewN _ _ _⟩
              · obtain ⟨j, hj⟩ : ∃ j, k = j + 1 := ⟨k - 1, by omega⟩
                have hgd : decide (0 < k) = true := by simp; omega
                have hjl : j < l.length := by omega
                rcases hfj : l[j] with ⟨tagj, textj, nj, sj⟩
                have hgetj : l[j]? = some ⟨tagj, textj, nj, sj⟩ := by rw [List.getElem?_eq_getElem hjl, hfj]
                have hTj : T = tagj := by rw [HT.out, hj, lastT_take l j _ hgetj]
                obtain ⟨j0, _, _, _⟩ := at_of (fun i u hi => gr1.cell (HCW.out i u hi) (by simp)) hgetj
                have hw1 : IntKind.i64.wrap ((k : Int) - 1) = (j : Int) := by rw [IntWalk.i64_in _ (by omega)]; omega
                have hj0 : (0 : Int) ≤ (j : Int) := Int.natCast_nonneg _
                have hj1 : (j : Int) < (l.length : Int) := by omega
                have HTJ := Lib.hid hTj
                clear hk0 hj hfj hgetj hTj
                go_quiet (fail)
                go_wp2_with fail
                go_meet
                exact ⟨by rw [HTJ.out], gb_drewN _ _ _⟩
            case rest =>
              obtain ⟨rfl, gx⟩ := hcut
              have k2 := k1.keep0 gx
              have hg2 := gb_trans hg1 gx
              clear c0 c1 c2 c3 k1 k0 g0 g1 gr1 hg1 gx
              have c0 := Blk.cell k2 0 rfl
              have c1 := Blk.cell k2 1 rfl
              have c2 := Blk.cell k2 2 rfl
              have c3 := Blk.cell k2 3 rfl
              by_cases h7 : tag ≤ T
              · go_wp2
                go_ret2
                refine ⟨?_, hg2⟩
                have hR : refB ⟨tag, text, n, s⟩ (lastT (l.take k)) = 7 := by rw [refB, if_neg (by rw [← HMB.out]; simp), ← HT.out, if_pos h7]
                rw [rput_bad HG.out HP2.out hR (by omega)]
                rfl
              · by_cases h4 : 2000 < s.size
                · have h4' : 2000 < (s.size : Int) := by omega
                  go_wp2
                  go_ret2
                  refine ⟨?_, hg2⟩
                  have hR : refB ⟨tag, text, n, s⟩ (lastT (l.take k)) = 4 := by rw [refB, if_neg (by rw [← HMB.out]; simp), ← HT.out, if_neg (show ¬ tag ≤ T by omega), if_pos h4]
                  rw [rput_bad HG.out HP2.out hR (by omega)]
                  rfl
                · have h4' : (s.size : Int) ≤ 2000 := by omega
                  have hR : refB ⟨tag, text, n, s⟩ (lastT (l.take k)) = 0 := by rw [refB, if_neg (by rw [← HMB.out]; simp), ← HT.out, if_neg (show ¬ tag ≤ T by omega), if_neg (show ¬ 2000 < s.size by omega)]
                  have HR := Lib.hid hR
                  clear hR
                  have hal : acc.length ≤ 64320 := by omega
                  have hlt2 := Blk.lt k2
                  have HACC := Lib.hid hacc
                  clear hacc
                  have hnn := HB.out.2.2
                  have HNN := Lib.hid hnn
                  clear hnn
                  cases text with
                  | false =>
                    obtain ⟨c, hc⟩ : ∃ c : UInt8, c = UInt8.ofNat (2 * tag).toNat := ⟨_, rfl⟩
                    have hz : (2 * tag) = (c.toNat : Int) := by rw [hc]; simp; omega
                    have HF := Lib.hid (show fieldB ⟨tag, false, n, s⟩ = [c] ++ numB n by rw [hc]; rfl)
                    have hcv := fun W => conv_bs _ _ _ (bs_one W (2 * tag) c hz)
                    have hcv2 := fun W => conv_bs _ _ _ ((bs_one W (2 * tag) c hz).keep0 (gb_drew _ none))
                    have hnl := numB_length n
                    obtain ⟨nb, hnb⟩ : ∃ nb, nb = numB n := ⟨_, rfl⟩
                    rw [← hnb] at hnl
                    have HNB := Lib.hid hnb
                    have HZ := Lib.hid hz
                    have hw1 : IntKind.i64.wrap (2 * tag) = 2 * tag := IntWalk.i64_in _ (by omega)
                    have hw2 : IntKind.u8.wrap (2 * tag) = 2 * tag := by simp only [IntKind.wrap, IntKind.bits, IntKind.signed]; simp; omega
                    clear hc hnb hz
                    go_wp2_with fail
                    have hs1 : (9223372036854775807 < acc.length + 1) = False := eq_false (by omega)
                    have hs2 : (9223372036854775807 < acc.length + 1 + nb.length) = False := eq_false (by omega)
                    refine wp_region_held_drew (S := fun w' : World => w'.cell? ⟨wr.heap.size, 0, none⟩ = some (.int .i64 tag) ∧ w'.cell? ⟨wr.heap.size, 2, none⟩ = some (.int .u64 n) ∧ w'.cell? ⟨wr.heap.size, 3, none⟩ = some (.string s)) (by kernel_rfl) ?_ (fun hHeld => ?_)
                    · exact ⟨c0, c2, c3⟩
                    refine wpAnyH_take (i := 0) (oi := _) (v := ?_) rfl (by kernel_rfl) (by kernel_rfl) (by kernel_rfl) (fun _ _ _ h => h) (Or.inl ⟨by rfl, ?_⟩) (by assumption) ?_
                    rotate_left
                    · (intro w' hSw; (try dsimp only at hSw); go_simp <;> (try with_reducible rfl))
                    try simp only [Act.put, List.setIfInBounds_toArray, List.set_cons_zero, List.set_cons_succ]
                    refine wpAnyH_take (i := 1) (oi := _) (v := ?_) rfl (by kernel_rfl) (by kernel_rfl) (by kernel_rfl) (fun _ _ _ h => h) (Or.inl ⟨by rfl, ?_⟩) (by assumption) ?_
                    rotate_left
                    · (intro w' hSw; (try dsimp only at hSw); go_simp <;> (try with_reducible rfl))
                    try simp only [Act.put, List.setIfInBounds_toArray, List.set_cons_zero, List.set_cons_succ]
                    refine wpAnyH_take (i := 2) (oi := _) (v := ?_) rfl (by kernel_rfl) (by kernel_rfl) (by kernel_rfl) (fun _ _ _ h => h) (Or.inl ⟨by rfl, ?_⟩) (by assumption) ?_
                    rotate_left
                    · (intro w' hSw; (try dsimp only at hSw); go_simp <;> (try with_reducible rfl))
                    try simp only [Act.put, List.setIfInBounds_toArray, List.set_cons_zero, List.set_cons_succ]
                    refine wpAnyH_take (i := 3) (oi := _) (v := ?_) rfl (by kernel_rfl) (by kernel_rfl) (by kernel_rfl) (fun _ _ _ h => h) (Or.inl ⟨by rfl, ?_⟩) (by assumption) ?_
                    rotate_left
                    · (intro w' hSw; (try dsimp only at hSw); go_simp <;> (try with_reducible rfl))
                    try simp only [Act.put, List.setIfInBounds_toArray, List.set_cons_zero, List.set_cons_succ]
                    refine wpAnyH_take (i := 4) (oi := _) (v := ?_) rfl (by kernel_rfl) (by kernel_rfl) (by kernel_rfl) (fun _ _ _ h => h) (Or.inl ⟨by rfl, ?_⟩) (by assumption) ?_
                    rotate_left
                    · (intro w' hSw; (try dsimp only at hSw); go_simp <;> (try with_reducible rfl))
                    try simp only [Act.put, List.setIfInBounds_toArray, List.set_cons_zero, List.set_cons_succ]
                    refine wpAnyH_take (i := 8) (oi := _) (v := ?_) rfl (by kernel_rfl) (by kernel_rfl) (by kernel_rfl) (fun _ _ _ h => h) (Or.inl ⟨by rfl, ?_⟩) (by assumption) ?_
                    rotate_left
                    · (intro w' hSw; (try dsimp only at hSw); go_simp <;> (try with_reducible rfl))
                    try simp only [Act.put, List.setIfInBounds_toArray, List.set_cons_zero, List.set_cons_succ]
                    refine wpAnyH_take (i := 9) (oi := _) (v := ?_) rfl (by kernel_rfl) (by kernel_rfl) (by kernel_rfl) (fun _ _ _ h => h) (Or.inl ⟨by rfl, ?_⟩) (by assumption) ?_
                    rotate_left
                    · (intro w' hSw; (try dsimp only at hSw); go_simp <;> (try with_reducible rfl))
                    try simp only [Act.put, List.setIfInBounds_toArray, List.set_cons_zero, List.set_cons_succ]
                    refine wpAnyH_ready (rs := [5, 10]) (by kernel_rfl) (by simp) ?_
                    refine AllReadyH.cons (o := _) rfl (fun K hK => ?_) ?_
                    · go_simp
                      refine hK.out _ _ ?_ (fun hHeld => ?_)
                      · (first | exact ⟨d0, d2, d3⟩ | go_keep)
                      clear hK K
                      try simp only [Act.put, List.setIfInBounds_toArray, List.set_cons_zero, List.set_cons_succ]
                      refine wpAnyH_ready (rs := [6, 10]) (by kernel_rfl) (by simp) ?_
                      refine AllReadyH.cons (o := _) rfl (fun K hK => ?_) ?_
                      · go_simp
                        refine hK.out _ _ ?_ (fun hHeld => ?_)
                        · (first | exact ⟨d0, d2, d3⟩ | go_keep)
                        clear hK K
                        try simp only [Act.put, List.setIfInBounds_toArray, List.set_cons_zero, List.set_cons_succ]
                        refine wpAnyH_take (i := 7) (oi := _) (v := ?_) rfl (by kernel_rfl) (by kernel_rfl) (by kernel_rfl) (fun _ _ _ h => h) (Or.inl ⟨by rfl, ?_⟩) (by assumption) ?_
                        rotate_left
                        · (intro w' hSw; (try dsimp only at hSw); go_simp <;> (try with_reducible rfl))
                        try simp only [Act.put, List.setIfInBounds_toArray, List.set_cons_zero, List.set_cons_succ]
                        refine wpAnyH_ready (rs := [10]) (by kernel_rfl) (by simp) ?_
                        refine AllReadyH.cons (o := _) rfl (fun K hK => ?_) ?_
                        · go_simp
                          refine (ref_number n _ HNN.out).mono ?_
                          rw [← HNB.out]
                          rintro e w3 ⟨rfl, g3⟩
                          (first | (have c5 := conv_bs _ _ _ (((bs_one wc (2 * tag) c HZ.out).keep0 (gb_drew _ none)).keep0 g3); have k3 := ((k2.keep0 (gb_alloc _ _ none)).keep0 (gb_drew _ none)).keep0 g3; replace g3 := gb_trans (gb_trans (gb_alloc wc _ none) (gb_drew _ none)) g3) | (have k3 := (k2.keep0 (gb_drew _ none)).keep0 g3; replace g3 := gb_trans (gb_drew wc none) g3))
                          have d0 := Blk.cell k3 0 rfl
                          have d2 := Blk.cell k3 2 rfl
                          have d3 := Blk.cell k3 3 rfl
                          have hz3 := Blk.lt k3
                          go_wp2_with fail
                          refine hK.out _ _ ?_ (fun hHeld => ?_)
                          · (first | exact ⟨d0, d2, d3⟩ | go_keep)
                          clear hK K
                          try simp only [Act.put, List.setIfInBounds_toArray, List.set_cons_zero, List.set_cons_succ]
                          refine wpAnyH_take (i := 11) (oi := _) (v := ?_) rfl (by kernel_rfl) (by kernel_rfl) (by kernel_rfl) (fun _ _ _ h => h) (Or.inl ⟨by rfl, ?_⟩) (by assumption) ?_
                          rotate_left
                          · (intro w' hSw; (try dsimp only at hSw); go_simp <;> (try with_reducible rfl))
                          try simp only [Act.put, List.setIfInBounds_toArray, List.set_cons_zero, List.set_cons_succ]
                          refine wpAnyH_take (i := 12) (oi := _) (v := ?_) rfl (by kernel_rfl) (by kernel_rfl) (by kernel_rfl) (fun _ _ _ h => h) (Or.inl ⟨by rfl, ?_⟩) (by assumption) ?_
                          rotate_left
                          · (intro w' hSw; (try dsimp only at hSw); go_simp <;> (try with_reducible rfl))
                          try simp only [Act.put, List.setIfInBounds_toArray, List.set_cons_zero, List.set_cons_succ]
                          refine wpAnyH_done (by kernel_rfl) ?_ _
                          have hRel : ∀ W, wc.grownBy W none → RPutRel w l (.string (⟨acc.toArray⟩ ++ ⟨#[c]⟩ ++ ⟨nb.toArray⟩)) (.int .i64 ((k + 1 : Nat) : Int)) W := fun W gW => rput_next HG.out HP2.out HR.out HACC.out (gb_trans hg2 gW) (by rw [HF.out, ← HNB.out]; exact cat3 acc c nb)
                          have HRL := Lib.hid hRel
                          clear hRel
                          go_wp2
                          go_roundw
                          case rel => first | exact HRL.out _ g3 | exact HRL.out _ (gb_trans g3 (gb_alloc _ _ none))
                          case measure => simp [intOf]; omega
                        exact AllReadyH.nil
                      refine AllReadyH.cons (o := _) rfl (fun K hK => ?_) ?_
                      · go_simp
                        refine (ref_number n _ HNN.out).mono ?_
                        rw [← HNB.out]
                        rintro e w3 ⟨rfl, g3⟩
                        (first | (have c5 := conv_bs _ _ _ (((bs_one wc (2 * tag) c HZ.out).keep0 (gb_drew _ none)).keep0 g3); have k3 := ((k2.keep0 (gb_alloc _ _ none)).keep0 (gb_drew _ none)).keep0 g3; replace g3 := gb_trans (gb_trans (gb_alloc wc _ none) (gb_drew _ none)) g3) | (have k3 := (k2.keep0 (gb_drew _ none)).keep0 g3; replace g3 := gb_trans (gb_drew wc none) g3))
                        have d0 := Blk.cell k3 0 rfl
                        have d2 := Blk.cell k3 2 rfl
                        have d3 := Blk.cell k3 3 rfl
                        have hz3 := Blk.lt k3
                        go_wp2_with fail
                        refine hK.out _ _ ?_ (fun hHeld => ?_)
                        · (first | exact ⟨d0, d2, d3⟩ | go_keep)
                        clear hK K
                        try simp only [Act.put, List.setIfInBounds_toArray, List.set_cons_zero, List.set_cons_succ]
                        refine wpAnyH_ready (rs := [6]) (by kernel_rfl) (by simp) ?_
                        refine AllReadyH.cons (o := _) rfl (fun K hK => ?_) ?_
                        · go_simp
                          refine hK.out _ _ ?_ (fun hHeld => ?_)
                          · (first | exact ⟨d0, d2, d3⟩ | go_keep)
                          clear hK K
                          try simp only [Act.put, List.setIfInBounds_toArray, List.set_cons_zero, List.set_cons_succ]
                          refine wpAnyH_take (i := 7) (oi := _) (v := ?_) rfl (by kernel_rfl) (by kernel_rfl) (by kernel_rfl) (fun _ _ _ h => h) (Or.inl ⟨by rfl, ?_⟩) (by assumption) ?_
                          rotate_left
                          · (intro w' hSw; (try dsimp only at hSw); go_simp <;> (try with_reducible rfl))
                          try simp only [Act.put, List.setIfInBounds_toArray, List.set_cons_zero, List.set_cons_succ]
                          refine wpAnyH_take (i := 11) (oi := _) (v := ?_) rfl (by kernel_rfl) (by kernel_rfl) (by kernel_rfl) (fun _ _ _ h => h) (Or.inl ⟨by rfl, ?_⟩) (by assumption) ?_
                          rotate_left
                          · (intro w' hSw; (try dsimp only at hSw); go_simp <;> (try with_reducible rfl))
                          try simp only [Act.put, List.setIfInBounds_toArray, List.set_cons_zero, List.set_cons_succ]
                          refine wpAnyH_take (i := 12) (oi := _) (v := ?_) rfl (by kernel_rfl) (by kernel_rfl) (by kernel_rfl) (fun _ _ _ h => h) (Or.inl ⟨by rfl, ?_⟩) (by assumption) ?_
                          rotate_left
                          · (intro w' hSw; (try dsimp only at hSw); go_simp <;> (try with_reducible rfl))
                          try simp only [Act.put, List.setIfInBounds_toArray, List.set_cons_zero, List.set_cons_succ]
                          refine wpAnyH_done (by kernel_rfl) ?_ _
                          have hRel : ∀ W, wc.grownBy W none → RPutRel w l (.string (⟨acc.toArray⟩ ++ ⟨#[c]⟩ ++ ⟨nb.toArray⟩)) (.int .i64 ((k + 1 : Nat) : Int)) W := fun W gW => rput_next HG.out HP2.out HR.out HACC.out (gb_trans hg2 gW) (by rw [HF.out, ← HNB.out]; exact cat3 acc c nb)
                          have HRL := Lib.hid hRel
                          clear hRel
                          go_wp2
                          go_roundw
                          case rel => first | exact HRL.out _ g3 | exact HRL.out _ (gb_trans g3 (gb_alloc _ _ none))
                          case measure => simp [intOf]; omega
                        exact AllReadyH.nil
                      exact AllReadyH.nil
                    refine AllReadyH.cons (o := _) rfl (fun K hK => ?_) ?_
                    · go_simp
                      refine (ref_number n _ HNN.out).mono ?_
                      rw [← HNB.out]
                      rintro e w3 ⟨rfl, g3⟩
                      (first | (have c5 := conv_bs _ _ _ (((bs_one wc (2 * tag) c HZ.out).keep0 (gb_drew _ none)).keep0 g3); have k3 := ((k2.keep0 (gb_alloc _ _ none)).keep0 (gb_drew _ none)).keep0 g3; replace g3 := gb_trans (gb_trans (gb_alloc wc _ none) (gb_drew _ none)) g3) | (have k3 := (k2.keep0 (gb_drew _ none)).keep0 g3; replace g3 := gb_trans (gb_drew wc none) g3))
                      have d0 := Blk.cell k3 0 rfl
                      have d2 := Blk.cell k3 2 rfl
                      have d3 := Blk.cell k3 3 rfl
                      have hz3 := Blk.lt k3
                      go_wp2_with fail
                      refine hK.out _ _ ?_ (fun hHeld => ?_)
                      · (first | exact ⟨d0, d2, d3⟩ | go_keep)
                      clear hK K
                      try simp only [Act.put, List.setIfInBounds_toArray, List.set_cons_zero, List.set_cons_succ]
                      refine wpAnyH_ready (rs := [5]) (by kernel_rfl) (by simp) ?_
                      refine AllReadyH.cons (o := _) rfl (fun K hK => ?_) ?_
                      · go_simp
                        refine hK.out _ _ ?_ (fun hHeld => ?_)
                        · (first | exact ⟨d0, d2, d3⟩ | go_keep)
                        clear hK K
                        try simp only [Act.put, List.setIfInBounds_toArray, List.set_cons_zero, List.set_cons_succ]
                        refine wpAnyH_ready (rs := [6]) (by kernel_rfl) (by simp) ?_
                        refine AllReadyH.cons (o := _) rfl (fun K hK => ?_) ?_
                        · go_simp
                          refine hK.out _ _ ?_ (fun hHeld => ?_)
                          · (first | exact ⟨d0, d2, d3⟩ | go_keep)
                          clear hK K
                          try simp only [Act.put, List.setIfInBounds_toArray, List.set_cons_zero, List.set_cons_succ]
                          refine wpAnyH_take (i := 7) (oi := _) (v := ?_) rfl (by kernel_rfl) (by kernel_rfl) (by kernel_rfl) (fun _ _ _ h => h) (Or.inl ⟨by rfl, ?_⟩) (by assumption) ?_
                          rotate_left
                          · (intro w' hSw; (try dsimp only at hSw); go_simp <;> (try with_reducible rfl))
                          try simp only [Act.put, List.setIfInBounds_toArray, List.set_cons_zero, List.set_cons_succ]
                          refine wpAnyH_take (i := 11) (oi := _) (v := ?_) rfl (by kernel_rfl) (by kernel_rfl) (by kernel_rfl) (fun _ _ _ h => h) (Or.inl ⟨by rfl, ?_⟩) (by assumption) ?_
                          rotate_left
                          · (intro w' hSw; (try dsimp only at hSw); go_simp <;> (try with_reducible rfl))
                          try simp only [Act.put, List.setIfInBounds_toArray, List.set_cons_zero, List.set_cons_succ]
                          refine wpAnyH_take (i := 12) (oi := _) (v := ?_) rfl (by kernel_rfl) (by kernel_rfl) (by kernel_rfl) (fun _ _ _ h => h) (Or.inl ⟨by rfl, ?_⟩) (by assumption) ?_
                          rotate_left
                          · (intro w' hSw; (try dsimp only at hSw); go_simp <;> (try with_reducible rfl))
                          try simp only [Act.put, List.setIfInBounds_toArray, List.set_cons_zero, List.set_cons_succ]
                          refine wpAnyH_done (by kernel_rfl) ?_ _
                          have hRel : ∀ W, wc.grownBy W none → RPutRel w l (.string (⟨acc.toArray⟩ ++ ⟨#[c]⟩ ++ ⟨nb.toArray⟩)) (.int .i64 ((k + 1 : Nat) : Int)) W := fun W gW => rput_next HG.out HP2.out HR.out HACC.out (gb_trans hg2 gW) (by rw [HF.out, ← HNB.out]; exact cat3 acc c nb)
                          have HRL := Lib.hid hRel
                          clear hRel
                          go_wp2
                          go_roundw
                          case rel => first | exact HRL.out _ g3 | exact HRL.out _ (gb_trans g3 (gb_alloc _ _ none))
                          case measure => simp [intOf]; omega
                        exact AllReadyH.nil
                      exact AllReadyH.nil
                    exact AllReadyH.nil
                  | true =>
                    obtain ⟨c, hc⟩ : ∃ c : UInt8, c = UInt8.ofNat (2 * tag + 1).toNat := ⟨_, rfl⟩
                    have hz : (2 * tag + 1) = (c.toNat : Int) := by rw [hc]; simp; omega
                    have HF := Lib.hid (show fieldB ⟨tag, true, n, s⟩ = [c] ++ (numB s.size ++ s.data.toList) by rw [hc]; rfl)
                    have hcv := fun W => conv_bs _ _ _ (bs_one W (2 * tag + 1) c hz)
                    have hcv2 := fun W => conv_bs _ _ _ ((bs_one W (2 * tag + 1) c hz).keep0 (gb_drew _ none))
                    have hnl := numB_length s.size
                    obtain ⟨nb, hnb⟩ : ∃ nb, nb = numB s.size := ⟨_, rfl⟩
                    rw [← hnb] at hnl
                    have HNB := Lib.hid hnb
                    have HZ := Lib.hid hz
                    have hw1 : IntKind.i64.wrap (2 * tag) = 2 * tag := IntWalk.i64_in _ (by omega)
                    have hw1' : IntKind.i64.wrap (2 * tag + 1) = 2 * tag + 1 := IntWalk.i64_in _ (by omega)
                    have hw2 : IntKind.u8.wrap (2 * tag + 1) = 2 * tag + 1 := by simp only [IntKind.wrap, IntKind.bits, IntKind.signed]; simp; omega
                    have hw64 : IntKind.u64.wrap (s.size : Int) = (s.size : Int) := by simp only [IntKind.wrap, IntKind.bits, IntKind.signed]; simp; omega
                    clear hc hnb hz
                    go_wp2_with fail
                    have hs1 : (9223372036854775807 < acc.length + 1) = False := eq_false (by omega)
                    have hs2 : (9223372036854775807 < acc.length + 1 + nb.length) = False := eq_false (by omega)
                    have hs3 : (9223372036854775807 < acc.length + 1 + nb.length + s.size) = False := eq_false (by omega)
                    refine wp_region_held_drew (S := fun w' : World => w'.cell? ⟨wr.heap.size, 0, none⟩ = some (.int .i64 tag) ∧ w'.cell? ⟨wr.heap.size, 2, none⟩ = some (.int .u64 n) ∧ w'.cell? ⟨wr.heap.size, 3, none⟩ = some (.string s)) (by kernel_rfl) ?_ (fun hHeld => ?_)
                    · exact ⟨c0, c2, c3⟩
                    refine wpAnyH_take (i := 0) (oi := _) (v := ?_) rfl (by kernel_rfl) (by kernel_rfl) (by kernel_rfl) (fun _ _ _ h => h) (Or.inl ⟨by rfl, ?_⟩) (by assumption) ?_
                    rotate_left
                    · (intro w' hSw; (try dsimp only at hSw); go_simp <;> (try with_reducible rfl))
                    try simp only [Act.put, List.setIfInBounds_toArray, List.set_cons_zero, List.set_cons_succ]
                    refine wpAnyH_take (i := 1) (oi := _) (v := ?_) rfl (by kernel_rfl) (by kernel_rfl) (by kernel_rfl) (fun _ _ _ h => h) (Or.inl ⟨by rfl, ?_⟩) (by assumption) ?_
                    rotate_left
                    · (intro w' hSw; (try dsimp only at hSw); go_simp <;> (try with_reducible rfl))
                    try simp only [Act.put, List.setIfInBounds_toArray, List.set_cons_zero, List.set_cons_succ]
                    refine wpAnyH_take (i := 2) (oi := _) (v := ?_) rfl (by kernel_rfl) (by kernel_rfl) (by kernel_rfl) (fun _ _ _ h => h) (Or.inl ⟨by rfl, ?_⟩) (by assumption) ?_
                    rotate_left
                    · (intro w' hSw; (try dsimp only at hSw); go_simp <;> (try with_reducible rfl))
                    try simp only [Act.put, List.setIfInBounds_toArray, List.set_cons_zero, List.set_cons_succ]
                    refine wpAnyH_take (i := 3) (oi := _) (v := ?_) rfl (by kernel_rfl) (by kernel_rfl) (by kernel_rfl) (fun _ _ _ h => h) (Or.inl ⟨by rfl, ?_⟩) (by assumption) ?_
                    rotate_left
                    · (intro w' hSw; (try dsimp only at hSw); go_simp <;> (try with_reducible rfl))
                    try simp only [Act.put, List.setIfInBounds_toArray, List.set_cons_zero, List.set_cons_succ]
                    refine wpAnyH_take (i := 4) (oi := _) (v := ?_) rfl (by kernel_rfl) (by kernel_rfl) (by kernel_rfl) (fun _ _ _ h => h) (Or.inl ⟨by rfl, ?_⟩) (by assumption) ?_
                    rotate_left
                    · (intro w' hSw; (try dsimp only at hSw); go_simp <;> (try with_reducible rfl))
                    try simp only [Act.put, List.setIfInBounds_toArray, List.set_cons_zero, List.set_cons_succ]
                    refine wpAnyH_take (i := 5) (oi := _) (v := ?_) rfl (by kernel_rfl) (by kernel_rfl) (by kernel_rfl) (fun _ _ _ h => h) (Or.inl ⟨by rfl, ?_⟩) (by assumption) ?_
                    rotate_left
                    · (intro w' hSw; (try dsimp only at hSw); go_simp <;> (try with_reducible rfl))
                    try simp only [Act.put, List.setIfInBounds_toArray, List.set_cons_zero, List.set_cons_succ]
                    refine wpAnyH_take (i := 9) (oi := _) (v := ?_) rfl (by kernel_rfl) (by kernel_rfl) (by kernel_rfl) (fun _ _ _ h => h) (Or.inl ⟨by rfl, ?_⟩) (by assumption) ?_
                    rotate_left
                    · (intro w' hSw; (try dsimp only at hSw); go_simp <;> (try with_reducible rfl))
                    try simp only [Act.put, List.setIfInBounds_toArray, List.set_cons_zero, List.set_cons_succ]
                    refine wpAnyH_take (i := 10) (oi := _) (v := ?_) rfl (by kernel_rfl) (by kernel_rfl) (by kernel_rfl) (fun _ _ _ h => h) (Or.inl ⟨by rfl, ?_⟩) (by assumption) ?_
                    rotate_left
                    · (intro w' hSw; (try dsimp only at hSw); go_simp <;> (try with_reducible rfl))
                    try simp only [Act.put, List.setIfInBounds_toArray, List.set_cons_zero, List.set_cons_succ]
                    refine wpAnyH_take (i := 11) (oi := _) (v := ?_) rfl (by kernel_rfl) (by kernel_rfl) (by kernel_rfl) (fun _ _ _ h => h) (Or.inl ⟨by rfl, ?_⟩) (by assumption) ?_
                    rotate_left
                    · (intro w' hSw; (try dsimp only at hSw); go_simp <;> (try with_reducible rfl))
                    try simp only [Act.put, List.setIfInBounds_toArray, List.set_cons_zero, List.set_cons_succ]
                    refine wpAnyH_take (i := 12) (oi := _) (v := ?_) rfl (by kernel_rfl) (by kernel_rfl) (by kernel_rfl) (fun _ _ _ h => h) (Or.inl ⟨by rfl, ?_⟩) (by assumption) ?_
                    rotate_left
                    · (intro w' hSw; (try dsimp only at hSw); go_simp <;> (try with_reducible rfl))
                    try simp only [Act.put, List.setIfInBounds_toArray, List.set_cons_zero, List.set_cons_succ]
                    refine wpAnyH_take (i := 15) (oi := _) (v := ?_) rfl (by kernel_rfl) (by kernel_rfl) (by kernel_rfl) (fun _ _ _ h => h) (Or.inl ⟨by rfl, ?_⟩) (by assumption) ?_
                    rotate_left
                    · (intro w' hSw; (try dsimp only at hSw); go_simp <;> (try with_reducible rfl))
                    try simp only [Act.put, List.setIfInBounds_toArray, List.set_cons_zero, List.set_cons_succ]
                    refine wpAnyH_take (i := 16) (oi := _) (v := ?_) rfl (by kernel_rfl) (by kernel_rfl) (by kernel_rfl) (fun _ _ _ h => h) (Or.inl ⟨by rfl, ?_⟩) (by assumption) ?_
                    rotate_left
                    · (intro w' hSw; (try dsimp only at hSw); go_simp <;> (try with_reducible rfl))
                    try simp only [Act.put, List.setIfInBounds_toArray, List.set_cons_zero, List.set_cons_succ]
                    refine wpAnyH_ready (rs := [6, 13]) (by kernel_rfl) (by simp) ?_
                    refine AllReadyH.cons (o := _) rfl (fun K hK => ?_) ?_
                    · go_simp
                      refine hK.out _ _ ?_ (fun hHeld => ?_)
                      · (first | exact ⟨d0, d2, d3⟩ | go_keep)
                      clear hK K
                      try simp only [Act.put, List.setIfInBounds_toArray, List.set_cons_zero, List.set_cons_succ]
                      refine wpAnyH_ready (rs := [7, 13]) (by kernel_rfl) (by simp) ?_
                      refine AllReadyH.cons (o := _) rfl (fun K hK => ?_) ?_
                      · go_simp
                        refine hK.out _ _ ?_ (fun hHeld => ?_)
                        · (first | exact ⟨d0, d2, d3⟩ | go_keep)
                        clear hK K
                        try simp only [Act.put, List.setIfInBounds_toArray, List.set_cons_zero, List.set_cons_succ]
                        refine wpAnyH_take (i := 8) (oi := _) (v := ?_) rfl (by kernel_rfl) (by kernel_rfl) (by kernel_rfl) (fun _ _ _ h => h) (Or.inl ⟨by rfl, ?_⟩) (by assumption) ?_
                        rotate_left
                        · (intro w' hSw; (try dsimp only at hSw); go_simp <;> (try with_reducible rfl))
                        try simp only [Act.put, List.setIfInBounds_toArray, List.set_cons_zero, List.set_cons_succ]
                        refine wpAnyH_ready (rs := [13]) (by kernel_rfl) (by simp) ?_
                        refine AllReadyH.cons (o := _) rfl (fun K hK => ?_) ?_
                        · go_simp
                          refine (ref_number s.size _ (by omega)).mono ?_
                          rw [← HNB.out]
                          rintro e w3 ⟨rfl, g3⟩
                          (first | (have c5 := conv_bs _ _ _ (((bs_one wc (2 * tag + 1) c HZ.out).keep0 (gb_drew _ none)).keep0 g3); have k3 := ((k2.keep0 (gb_alloc _ _ none)).keep0 (gb_drew _ none)).keep0 g3; replace g3 := gb_trans (gb_trans (gb_alloc wc _ none) (gb_drew _ none)) g3) | (have k3 := (k2.keep0 (gb_drew _ none)).keep0 g3; replace g3 := gb_trans (gb_drew wc none) g3))
                          have d0 := Blk.cell k3 0 rfl
                          have d2 := Blk.cell k3 2 rfl
                          have d3 := Blk.cell k3 3 rfl
                          have hz3 := Blk.lt k3
                          go_wp2_with fail
                          refine hK.out _ _ ?_ (fun hHeld => ?_)
                          · (first | exact ⟨d0, d2, d3⟩ | go_keep)
                          clear hK K
                          try simp only [Act.put, List.setIfInBounds_toArray, List.set_cons_zero, List.set_cons_succ]
                          refine wpAnyH_take (i := 14) (oi := _) (v := ?_) rfl (by kernel_rfl) (by kernel_rfl) (by kernel_rfl) (fun _ _ _ h => h) (Or.inl ⟨by rfl, ?_⟩) (by assumption) ?_
                          rotate_left
                          · (intro w' hSw; (try dsimp only at hSw); go_simp <;> (try with_reducible rfl))
                          try simp only [Act.put, List.setIfInBounds_toArray, List.set_cons_zero, List.set_cons_succ]
                          refine wpAnyH_take (i := 17) (oi := _) (v := ?_) rfl (by kernel_rfl) (by kernel_rfl) (by kernel_rfl) (fun _ _ _ h => h) (Or.inl ⟨by rfl, ?_⟩) (by assumption) ?_
                          rotate_left
                          · (intro w' hSw; (try dsimp only at hSw); go_simp <;> (try with_reducible rfl))
                          try simp only [Act.put, List.setIfInBounds_toArray, List.set_cons_zero, List.set_cons_succ]
                          refine wpAnyH_take (i := 18) (oi := _) (v := ?_) rfl (by kernel_rfl) (by kernel_rfl) (by kernel_rfl) (fun _ _ _ h => h) (Or.inl ⟨by rfl, ?_⟩) (by assumption) ?_
                          rotate_left
                          · (intro w' hSw; (try dsimp only at hSw); go_simp <;> (try with_reducible rfl))
                          try simp only [Act.put, List.setIfInBounds_toArray, List.set_cons_zero, List.set_cons_succ]
                          refine wpAnyH_done (by kernel_rfl) ?_ _
                          have hRel : ∀ W, wc.grownBy W none → RPutRel w l (.string (⟨acc.toArray⟩ ++ ⟨#[c]⟩ ++ ⟨nb.toArray⟩ ++ s)) (.int .i64 ((k + 1 : Nat) : Int)) W := fun W gW => rput_next HG.out HP2.out HR.out HACC.out (gb_trans hg2 gW) (by rw [HF.out, ← HNB.out]; exact cat4 acc c nb s)
                          have HRL := Lib.hid hRel
                          clear hRel
                          go_wp2
                          go_roundw
                          case rel => first | exact HRL.out _ g3 | exact HRL.out _ (gb_trans g3 (gb_alloc _ _ none))
                          case measure => simp [intOf]; omega
                        exact AllReadyH.nil
                      refine AllReadyH.cons (o := _) rfl (fun K hK => ?_) ?_
                      · go_simp
                        refine (ref_number s.size _ (by omega)).mono ?_
                        rw [← HNB.out]
                        rintro e w3 ⟨rfl, g3⟩
                        (first | (have c5 := conv_bs _ _ _ (((bs_one wc (2 * tag + 1) c HZ.out).keep0 (gb_drew _ none)).keep0 g3); have k3 := ((k2.keep0 (gb_alloc _ _ none)).keep0 (gb_drew _ none)).keep0 g3; replace g3 := gb_trans (gb_trans (gb_alloc wc _ none) (gb_drew _ none)) g3) | (have k3 := (k2.keep0 (gb_drew _ none)).keep0 g3; replace g3 := gb_trans (gb_drew wc none) g3))
                        have d0 := Blk.cell k3 0 rfl
                        have d2 := Blk.cell k3 2 rfl
                        have d3 := Blk.cell k3 3 rfl
                        have hz3 := Blk.lt k3
                        go_wp2_with fail
                        refine hK.out _ _ ?_ (fun hHeld => ?_)
                        · (first | exact ⟨d0, d2, d3⟩ | go_keep)
                        clear hK K
                        try simp only [Act.put, List.setIfInBounds_toArray, List.set_cons_zero, List.set_cons_succ]
                        refine wpAnyH_ready (rs := [7]) (by kernel_rfl) (by simp) ?_
                        refine AllReadyH.cons (o := _) rfl (fun K hK => ?_) ?_
                        · go_simp
                          refine hK.out _ _ ?_ (fun hHeld => ?_)
                          · (first | exact ⟨d0, d2, d3⟩ | go_keep)
                          clear hK K
                          try simp only [Act.put, List.setIfInBounds_toArray, List.set_cons_zero, List.set_cons_succ]
                          refine wpAnyH_take (i := 8) (oi := _) (v := ?_) rfl (by kernel_rfl) (by kernel_rfl) (by kernel_rfl) (fun _ _ _ h => h) (Or.inl ⟨by rfl, ?_⟩) (by assumption) ?_
                          rotate_left
                          · (intro w' hSw; (try dsimp only at hSw); go_simp <;> (try with_reducible rfl))
                          try simp only [Act.put, List.setIfInBounds_toArray, List.set_cons_zero, List.set_cons_succ]
                          refine wpAnyH_take (i := 14) (oi := _) (v := ?_) rfl (by kernel_rfl) (by kernel_rfl) (by kernel_rfl) (fun _ _ _ h => h) (Or.inl ⟨by rfl, ?_⟩) (by assumption) ?_
                          rotate_left
                          · (intro w' hSw; (try dsimp only at hSw); go_simp <;> (try with_reducible rfl))
                          try simp only [Act.put, List.setIfInBounds_toArray, List.set_cons_zero, List.set_cons_succ]
                          refine wpAnyH_take (i := 17) (oi := _) (v := ?_) rfl (by kernel_rfl) (by kernel_rfl) (by kernel_rfl) (fun _ _ _ h => h) (Or.inl ⟨by rfl, ?_⟩) (by assumption) ?_
                          rotate_left
                          · (intro w' hSw; (try dsimp only at hSw); go_simp <;> (try with_reducible rfl))
                          try simp only [Act.put, List.setIfInBounds_toArray, List.set_cons_zero, List.set_cons_succ]
                          refine wpAnyH_take (i := 18) (oi := _) (v := ?_) rfl (by kernel_rfl) (by kernel_rfl) (by kernel_rfl) (fun _ _ _ h => h) (Or.inl ⟨by rfl, ?_⟩) (by assumption) ?_
                          rotate_left
                          · (intro w' hSw; (try dsimp only at hSw); go_simp <;> (try with_reducible rfl))
                          try simp only [Act.put, List.setIfInBounds_toArray, List.set_cons_zero, List.set_cons_succ]
                          refine wpAnyH_done (by kernel_rfl) ?_ _
                          have hRel : ∀ W, wc.grownBy W none → RPutRel w l (.string (⟨acc.toArray⟩ ++ ⟨#[c]⟩ ++ ⟨nb.toArray⟩ ++ s)) (.int .i64 ((k + 1 : Nat) : Int)) W := fun W gW => rput_next HG.out HP2.out HR.out HACC.out (gb_trans hg2 gW) (by rw [HF.out, ← HNB.out]; exact cat4 acc c nb s)
                          have HRL := Lib.hid hRel
                          clear hRel
                          go_wp2
                          go_roundw
                          case rel => first | exact HRL.out _ g3 | exact HRL.out _ (gb_trans g3 (gb_alloc _ _ none))
                          case measure => simp [intOf]; omega
                        exact AllReadyH.nil
                      exact AllReadyH.nil
                    refine AllReadyH.cons (o := _) rfl (fun K hK => ?_) ?_
                    · go_simp
                      refine (ref_number s.size _ (by omega)).mono ?_
                      rw [← HNB.out]
                      rintro e w3 ⟨rfl, g3⟩
                      (first | (have c5 := conv_bs _ _ _ (((bs_one wc (2 * tag + 1) c HZ.out).keep0 (gb_drew _ none)).keep0 g3); have k3 := ((k2.keep0 (gb_alloc _ _ none)).keep0 (gb_drew _ none)).keep0 g3; replace g3 := gb_trans (gb_trans (gb_alloc wc _ none) (gb_drew _ none)) g3) | (have k3 := (k2.keep0 (gb_drew _ none)).keep0 g3; replace g3 := gb_trans (gb_drew wc none) g3))
                      have d0 := Blk.cell k3 0 rfl
                      have d2 := Blk.cell k3 2 rfl
                      have d3 := Blk.cell k3 3 rfl
                      have hz3 := Blk.lt k3
                      go_wp2_with fail
                      refine hK.out _ _ ?_ (fun hHeld => ?_)
                      · (first | exact ⟨d0, d2, d3⟩ | go_keep)
                      clear hK K
                      try simp only [Act.put, List.setIfInBounds_toArray, List.set_cons_zero, List.set_cons_succ]
                      refine wpAnyH_ready (rs := [6]) (by kernel_rfl) (by simp) ?_
                      refine AllReadyH.cons (o := _) rfl (fun K hK => ?_) ?_
                      · go_simp
                        refine hK.out _ _ ?_ (fun hHeld => ?_)
                        · (first | exact ⟨d0, d2, d3⟩ | go_keep)
                        clear hK K
                        try simp only [Act.put, List.setIfInBounds_toArray, List.set_cons_zero, List.set_cons_succ]
                        refine wpAnyH_ready (rs := [7]) (by kernel_rfl) (by simp) ?_
                        refine AllReadyH.cons (o := _) rfl (fun K hK => ?_) ?_
                        · go_simp
                          refine hK.out _ _ ?_ (fun hHeld => ?_)
                          · (first | exact ⟨d0, d2, d3⟩ | go_keep)
                          clear hK K
                          try simp only [Act.put, List.setIfInBounds_toArray, List.set_cons_zero, List.set_cons_succ]
                          refine wpAnyH_take (i := 8) (oi := _) (v := ?_) rfl (by kernel_rfl) (by kernel_rfl) (by kernel_rfl) (fun _ _ _ h => h) (Or.inl ⟨by rfl, ?_⟩) (by assumption) ?_
                          rotate_left
                          · (intro w' hSw; (try dsimp only at hSw); go_simp <;> (try with_reducible rfl))
                          try simp only [Act.put, List.setIfInBounds_toArray, List.set_cons_zero, List.set_cons_succ]
                          refine wpAnyH_take (i := 14) (oi := _) (v := ?_) rfl (by kernel_rfl) (by kernel_rfl) (by kernel_rfl) (fun _ _ _ h => h) (Or.inl ⟨by rfl, ?_⟩) (by assumption) ?_
                          rotate_left
                          · (intro w' hSw; (try dsimp only at hSw); go_simp <;> (try with_reducible rfl))
                          try simp only [Act.put, List.setIfInBounds_toArray, List.set_cons_zero, List.set_cons_succ]
                          refine wpAnyH_take (i := 17) (oi := _) (v := ?_) rfl (by kernel_rfl) (by kernel_rfl) (by kernel_rfl) (fun _ _ _ h => h) (Or.inl ⟨by rfl, ?_⟩) (by assumption) ?_
                          rotate_left
                          · (intro w' hSw; (try dsimp only at hSw); go_simp <;> (try with_reducible rfl))
                          try simp only [Act.put, List.setIfInBounds_toArray, List.set_cons_zero, List.set_cons_succ]
                          refine wpAnyH_take (i := 18) (oi := _) (v := ?_) rfl (by kernel_rfl) (by kernel_rfl) (by kernel_rfl) (fun _ _ _ h => h) (Or.inl ⟨by rfl, ?_⟩) (by assumption) ?_
                          rotate_left
                          · (intro w' hSw; (try dsimp only at hSw); go_simp <;> (try with_reducible rfl))
                          try simp only [Act.put, List.setIfInBounds_toArray, List.set_cons_zero, List.set_cons_succ]
                          refine wpAnyH_done (by kernel_rfl) ?_ _
                          have hRel : ∀ W, wc.grownBy W none → RPutRel w l (.string (⟨acc.toArray⟩ ++ ⟨#[c]⟩ ++ ⟨nb.toArray⟩ ++ s)) (.int .i64 ((k + 1 : Nat) : Int)) W := fun W gW => rput_next HG.out HP2.out HR.out HACC.out (gb_trans hg2 gW) (by rw [HF.out, ← HNB.out]; exact cat4 acc c nb s)
                          have HRL := Lib.hid hRel
                          clear hRel
                          go_wp2
                          go_roundw
                          case rel => first | exact HRL.out _ g3 | exact HRL.out _ (gb_trans g3 (gb_alloc _ _ none))
                          case measure => simp [intOf]; omega
                        exact AllReadyH.nil
                      exact AllReadyH.nil
                    exact AllReadyH.nil
      · obtain rfl : k = l.length := by omega
        go_wp2
        go_ret2
        refine ⟨?_, hg⟩
        rw [HP2.out, List.drop_length]
        rfl
end Go.Proofs.YtcifabichcjjjaaDoor
