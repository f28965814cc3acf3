/-
  FreemapBack's walk: a map comes back from its bytes, and what its runs are, over this seat's translation; conditions: the table of math/bits reads as the library lays it, the numbers read as a list.
-/
import Derived.Test.YtaihcbkdbdhihaaDoorMu
import Derived.Test.YtaihcbkdbdhihaaDoorMpo
namespace Go.Proofs.YtaihcbkdbdhihaaDoor
open Go.RowKit

/-- The program's map, in memory of the call's own. -/
structure One (w : World) (n p : Nat) (us : List Bool) (W : World) : Prop where
  pm : PM W p us
  newp : w.heap.size ≤ p
  len : us.length = n
  small : n ≤ 1024
  grown : w.grownBy W none
theorem one_use {w : World} {n p : Nat} {us : List Bool} {W : World} (i : Int) (h : One w n p us W) :
    Calls Tryd.prog 11 #[.pointer (some ⟨p, 0, none⟩), .int .i64 i] W fun e W' => e = .returned (.int .i64 (useE us i)) ∧ One w n p (useS us i) W' :=
  (use_any p us i W h.pm (by rw [h.len]; exact h.small)).mono fun _ _ ⟨h1, h2, h3⟩ => ⟨h1, h2, h.newp, (useS_length _ _).trans h.len, h.small, gb_step h.grown h3 h.newp⟩
theorem apart_at : ∀ {L : List (Nat × Nat)}, Apart L → ∀ (i : Nat) (hi : i + 1 < L.length), L[i].1 + L[i].2 < L[i + 1].1
  | [], _, i, hi => by simp at hi
  | [_], _, i, hi => by simp at hi
  | p :: q :: l, h, 0, _ => h.1
  | p :: q :: l, h, i + 1, hi => apart_at (L := q :: l) h.2 i (by simpa using hi)
/-- Where the run before ended. -/
def lastOf (L : List (Nat × Nat)) : Nat → Int
  | 0 => -2
  | i + 1 => ((L.getD i (0, 0)).1 + (L.getD i (0, 0)).2 : Nat)
theorem lastOf_eq (L : List (Nat × Nat)) (i : Nat) : lastOf L (i + 1) = (((L.getD i (0, 0)).1 + (L.getD i (0, 0)).2 : Nat) : Int) := rfl
theorem lastOf_lt {L : List (Nat × Nat)} (h : Apart L) (i : Nat) (hi : i < L.length) : lastOf L i < (L[i].1 : Int) := by
  cases i with
  | zero => show (-2 : Int) < _; omega
  | succ i =>
    have := apart_at h i hi
    rw [lastOf_eq, List.getD_eq_getElem?_getD, List.getElem?_eq_getElem (by omega)]
    simp only [Option.getD_some]
    omega
theorem lastOf_succ {L : List (Nat × Nat)} (i : Nat) (hi : i < L.length) : lastOf L (i + 1) = (L[i].1 : Int) + (L[i].2 : Int) := by
  rw [lastOf_eq, List.getD_eq_getElem?_getD, List.getElem?_eq_getElem hi]
  simp
theorem many_take {L : List (Nat × Nat)} (i : Nat) (hi : i < L.length) : manyIn (L.take (i + 1)) = manyIn (L.take i) + L[i].2 := by
  rw [List.take_succ_eq_append_getElem hi]
  exact manyIn_snoc _ L[i].1 L[i].2
theorem many_le {L : List (Nat × Nat)} (i : Nat) : manyIn (L.take i) ≤ manyIn L := by
  have h : manyIn (L.take i) + manyIn (L.drop i) = manyIn L := by
    unfold manyIn
    rw [← List.sum_append, ← List.map_append, List.take_append_drop]
  omega
set_option maxRecDepth 100000 in
set_option maxHeartbeats 4000000 in
theorem back_walk (c : Nat) (v1 : Value) (l1 : List Nat) (w : World) (hT : Tab w) (hA1 : Hvs w v1 l1) (hc : c < 65536) :
    Calls Tryd.prog 6 #[.int .u16 (c : Nat), v1] w fun e w' => e = .returned (.bool true) ∧ w.grownBy w' none := by
  obtain ⟨hS1, hb1⟩ := hA1
  obtain ⟨ao, acap, rfl, _, _, hna, hxa⟩ := hS1
  have HX1 := Lib.hid (And.intro hna (And.intro hxa hb1))
  have HT := Lib.hid hT
  clear hna hxa hb1 hT
  obtain ⟨n, hn⟩ : ∃ n, 1 + c % 1024 = n := ⟨_, rfl⟩
  have hn1 : 1 ≤ n := by omega
  have hn2 : n ≤ 1024 := by omega
  have hni : (1 : Int) + (c : Int) % 1024 = (n : Int) := by omega
  have hni2 : (c : Int) % 1024 + 1 = (n : Int) := by omega
  have hcw : IntKind.i64.wrap (c : Int) = (c : Int) := IntWalk.i64_in _ (by omega)
  clear hn hc
  go_enter Tryd.func6, Tryd.ntmps6
  go_wp2_with (first
    | (go_at_call 10; (with_reducible refine (works_any _ HT.out).mono ?_); rintro e w0 ⟨rfl, g0⟩)
    | (go_at_call 8; (with_reducible refine (new_yes n _ hn1 hn2).mono ?_); rintro e w1 ⟨rfl, P1, g1⟩))
  have HS0 := Lib.hid (show One w n w0.heap.size (List.replicate n false) w1 from ⟨P1, g0.size, List.length_replicate, hn2, gb_trans g0 g1⟩)
  obtain ⟨p, hp⟩ : ∃ p, w0.heap.size = p := ⟨_, rfl⟩
  rw [hp] at HS0
  rw [hp]
  clear P1 g0 g1 hcw hni hni2 hp
  go_loopw [7] (fun v wr => ∃ (k : Nat) (us : List Bool), k ≤ l1.length ∧ v = .int .i64 k ∧ One w n p us wr) (fun v _ => l1.length - (intOf v).toNat)
  case atStart => exact ⟨0, _, by omega, rfl, HS0.out⟩
  case round =>
    obtain ⟨k, us, hk, rfl, hS⟩ := hrel
    have H := Lib.hid hS
    have HN := Lib.hid (show us.length ≤ 1024 by rw [hS.len]; exact hn2)
    clear hS HS0
    by_cases hin : k < l1.length ∧ k < 300
    · obtain ⟨hlt, h300⟩ := hin
      cases ao with
      | none => have := (HX1.out.1 rfl).1; omega
      | some x =>
        have c0 := H.out.grown.cell (HX1.out.2.1 x rfl k (.int .u16 (l1[k] : Nat)) (by simp [halvesC, hlt])) (by simp)
        have hub := HX1.out.2.2 l1[k] (List.getElem_mem hlt)
        generalize l1[k] = u at c0 hub
        have huw : IntKind.i64.wrap (u : Int) = (u : Int) := IntWalk.i64_in _ (by omega)
        obtain ⟨m, hm⟩ : ∃ m, u % n = m := ⟨_, rfl⟩
        have hmn : m < n := by rw [← hm]; exact Nat.mod_lt _ (by omega)
        have hm1 : (u : Int).tmod (n : Int) = (m : Int) := by rw [← hm]; exact (Int.ofNat_tmod _ _).symm
        have hm2 : (u : Int) % (n : Int) = (m : Int) := by rw [← hm]; exact (Int.natCast_emod _ _).symm
        have hmw : IntKind.i64.wrap (m : Int) = (m : Int) := IntWalk.i64_in _ (by omega)
        have hn0 : ((n : Int) = 0) = False := by simp; omega
        clear hm
        go_wp2_with (go_at_call 11; (with_reducible refine (one_use (m : Nat) H.out).mono ?_); rintro e w2 ⟨rfl, h2⟩)
        go_roundw
        case rel => exact ⟨k + 1, _, by omega, by go_num, h2⟩
        case measure => simp [intOf]; omega
    · by_cases hlt : k < l1.length
      · have h300 : ¬ ((k : Int) < 300) := by omega
        clear hin
        have H' := H
        have hB1 : (putB us).size = (n + 7) / 8 := by unfold putB; show (putF us).toArray.size = _; rw [List.size_toArray, putF_length, H.out.len]
        have hB2 : (putB us).data.toList = putF us := rfl
        have hfo : formOk n (putB us).data.toList = true := by rw [hB2, ← H.out.len]; exact formOk_putF us
        have hus : usOf n (putB us).data.toList = us := by rw [hB2, ← H.out.len]; exact usOf_putF us
        have HRd := Lib.hid (fun W => by have := pread_ok n (putB us) W hn1 hn2 hfo; rw [hus] at this; exact this : ∀ W, Calls Tryd.prog 23 #[.int .i64 (n : Nat), .string (putB us)] W fun e w' => e = .returned (.tuple #[.pointer (some ⟨W.heap.size, 0, none⟩), .int .i64 0]) ∧ PM w' W.heap.size us ∧ W.grownBy w' none)
        have HPu := Lib.hid (fun p W h => put_any p us W h HN.out)
        have hBb : (putB us).size ≤ 128 := by omega
        generalize putB us = B at HRd HPu hB1 hBb
        clear hB2 hfo hus H'
        obtain ⟨S, hS⟩ : ∃ S, B.size = S := ⟨_, rfl⟩
        have hS0 : 1 ≤ S := by omega
        have hSi : ((n : Int) + 7) / 8 = (S : Int) := by omega
        have hSw : IntKind.i64.wrap (S : Int) = (S : Int) := IntWalk.i64_in _ (by omega)
        have HS := Lib.hid (And.intro hS hB1)
        go_wp2_with fail
        go_at_call 26
        (with_reducible refine (HPu.out p _ H.out.pm).mono ?_)
        rintro e w2 ⟨rfl, g2⟩
        have P2 := H.out.pm.keep0 g2
        have G2 := gb_trans H.out.grown g2
        go_wp2_with fail
        go_at_call 23
        (with_reducible refine (HRd.out _).mono ?_)
        rintro e w3 ⟨rfl, O3, g3⟩
        have P3 := P2.keep0 g3
        have G3 := gb_trans G2 g3
        obtain ⟨o, ho⟩ : ∃ o, w2.heap.size = o := ⟨_, rfl⟩
        rw [ho] at O3 ⊢
        have H3 := Lib.hid (And.intro P3 (And.intro O3 G3))
        clear P2 G2 g2 P3 O3 G3 g3 ho
        go_wp2_with fail
        go_at_call 26
        (with_reducible refine (HPu.out o _ H3.out.2.1).mono ?_)
        rintro e w4 ⟨rfl, g4⟩
        have H4 := Lib.hid (And.intro (H3.out.1.keep0 g4) (And.intro (H3.out.2.1.keep0 g4) (gb_trans H3.out.2.2 g4)))
        clear g4
        have HLn := Lib.hid (show Calls Tryd.prog 27 #[.pointer (some ⟨o, 0, none⟩)] w4 fun e w' => e = .returned (.int .i64 (n : Nat)) ∧ w4 = w' by have := len_any o us w4 H4.out.2.1; rw [H.out.len] at this; exact this)
        obtain ⟨F, hF⟩ : ∃ F, leftF us = F := ⟨_, rfl⟩
        have HF := Lib.hid hF
        have HLo := Lib.hid (fun p W h => by have := left_any p us W h HN.out; rw [hF] at this; exact this : ∀ p W, PM W p us → Calls Tryd.prog 21 #[.pointer (some ⟨p, 0, none⟩)] W fun e w' => e = .returned (.int .i64 (F : Nat)) ∧ W = w')
        clear hF
        go_wp2_with (first
          | (go_at_call 27; (with_reducible refine HLn.out.mono ?_); rintro e w' ⟨rfl, rfl⟩)
          | (go_at_call 21; first
            | ((with_reducible refine (HLo.out o _ H4.out.2.1).mono ?_); rintro e w' ⟨rfl, rfl⟩)
            | ((with_reducible refine (HLo.out p _ H4.out.1).mono ?_); rintro e w' ⟨rfl, rfl⟩)))
        have hsh : (B.extract 0 (S - 1)).size ≠ (n + 7) / 8 := by have := HS.out; simp; omega
        have HSh := Lib.hid (fun W => read_size n (B.extract 0 (S - 1)) W hn1 hn2 hsh)
        clear hsh
        go_at_call 23
        (with_reducible refine (HSh.out _).mono ?_)
        rintro e w5 ⟨rfl, g5⟩
        have H5 := Lib.hid (And.intro (H4.out.1.keep0 g5) (And.intro (H4.out.2.1.keep0 g5) (gb_trans H4.out.2.2 g5)))
        clear g5
        go_wp2_with fail
        have hlg : (B ++ ⟨#[0]⟩ : ByteArray).size ≠ (n + 7) / 8 := by have := HS.out; rw [ByteArray.size_append]; show B.size + 1 ≠ _; omega
        have HLg := Lib.hid (fun W => read_size n (B ++ ⟨#[0]⟩) W hn1 hn2 hlg)
        clear hlg
        go_at_call 23
        (with_reducible refine (HLg.out _).mono ?_)
        rintro e w6 ⟨rfl, g6⟩
        have H6 := Lib.hid (And.intro (H5.out.1.keep0 g6) (And.intro (H5.out.2.1.keep0 g6) (gb_trans H5.out.2.2 g6)))
        clear g6
        go_wp2_with fail
        go_at_call 25
        (with_reducible refine (runs_any o us _ H6.out.2.1 (HT.out.keep0 H6.out.2.2) HN.out).mono ?_)
        rintro e w7 ⟨vr, rfl, hvr, g7⟩
        have H7 := Lib.hid (And.intro (H6.out.1.keep0 g7) (And.intro (H6.out.2.1.keep0 g7) (gb_trans H6.out.2.2 g7)))
        clear g7
        have hap := runsTo_apart (us := us) us.length
        have hbd := fun (x : Nat × Nat) (hx : x ∈ runsF us) => runsF_bd hx
        have hmy := runsF_many us
        have hrl := runsF_len us
        obtain ⟨L, hL⟩ : ∃ L, runsF us = L := ⟨_, rfl⟩
        rw [show runsTo us us.length = L from hL] at hap
        rw [hL] at hvr hbd hmy hrl
        rw [HF.out] at hmy
        rw [H.out.len] at hbd
        have HL := Lib.hid (And.intro hap (And.intro hbd (And.intro hmy hvr)))
        have hLn : L.length ≤ 1024 := Nat.le_trans hrl HN.out
        have hFn : F ≤ 1024 := by have := leftF_le us; have := HN.out; have := HF.out; omega
        obtain ⟨ro, rcap, rfl, _, _, _, -⟩ := hvr
        clear hap hbd hmy hrl hL hSi hSw
        go_wp2_with fail
        go_loopw [15, 16, 18] (fun v15 v16 v18 wr => ∃ i : Nat, i ≤ L.length ∧ v18 = .int .i64 i ∧ v15 = .int .i64 (manyIn (L.take i) : Nat) ∧ v16 = .int .i64 (lastOf L i) ∧ w7.grownBy wr none) (fun _ _ v _ => L.length - (intOf v).toNat)
        case atStart => exact ⟨0, by omega, rfl, rfl, rfl, gb_refl _ _⟩
        case round =>
          obtain ⟨i, hi, rfl, rfl, rfl, hg⟩ := hrel
          have hml := many_le (L := L) i
          rw [HL.out.2.2.1] at hml
          by_cases hil : i < L.length
          · obtain ⟨x, xc, hx1, _, hx2⟩ := prs_at HL.out.2.2.2 (by omega)
            injection hx1 with hx1 _ hx3
            subst hx1
            obtain rfl : rcap = xc := hx3
            have d1 := (hx2 i hil).1
            have d2 := (hx2 i hil).2
            rw [show x.add (i * 2 + 1) = (x.add (i * 2)).add 1 from (add_add _ _ _).symm] at d2
            replace d2 : w7.cell? ⟨(x.add (i * 2)).block, (x.add (i * 2)).off + 1, none⟩ = some (.int .i64 (L[i].2 : Nat)) := d2
            have HD := Lib.hid (And.intro d1 d2)
            have c1 := hg.cell d1 (by simp)
            have c2 := hg.cell d2 (by simp)
            clear d1 d2
            have hB := HL.out.2.1 L[i] (List.getElem_mem hil)
            have hlt := lastOf_lt HL.out.1 i hil
            have hms := many_take i hil
            have hms2 := many_le (L := L) (i + 1)
            rw [HL.out.2.2.1] at hms2
            have HSU := Lib.hid (And.intro hms (lastOf_succ i hil))
            rw [hms] at hms2
            obtain ⟨LO, hLO⟩ : ∃ LO, lastOf L i = LO := ⟨_, rfl⟩
            obtain ⟨MA, hMA⟩ : ∃ MA, manyIn (L.take i) = MA := ⟨_, rfl⟩
            rw [hLO] at hlt ⊢
            rw [hMA] at hml hms2 HSU ⊢
            obtain ⟨hb1, hb2, hb3⟩ := hB
            have HB3 := Lib.hid hb3
            have HG := Lib.hid hg
            generalize L[i].1 = xa at *
            generalize L[i].2 = xb at *
            have h1 : ¬ ((xb : Int) < 1) := by omega
            have h2 : ¬ ((xa : Int) ≤ LO) := by omega
            have h3 : ¬ ((xa : Int) < 0) := by omega
            clear hx2 hms hLO hMA hb3 hg
            go_wp2_with fail
            go_loopw [19] (fun v wq => ∃ k : Nat, xa ≤ k ∧ k ≤ xa + xb ∧ v = .int .i64 k ∧ w7.grownBy wq none) (fun v _ => xa + xb - (intOf v).toNat)
            case atStart => exact ⟨xa, by omega, by omega, rfl, HG.out⟩
            case round =>
              clear c1 c2 HG
              obtain ⟨k, hk1, hk2, rfl, hg⟩ := hrel
              have c1 := hg.cell HD.out.1 (by simp)
              have c2 := hg.cell HD.out.2 (by simp)
              have hsw : IntKind.i64.wrap ((xa : Int) + (xb : Int)) = (xa : Int) + (xb : Int) := IntWalk.i64_in _ (by omega)
              have HG := Lib.hid hg
              clear hg
              by_cases hks : k < xa + xb
              · have hkd : decide ((k : Int) < (xa : Int) + (xb : Int)) = true := decide_eq_true (by omega)
                have hkn : ¬ ((n : Int) ≤ (k : Int)) := by omega
                have hfree : hasF us (k : Int) = false := by rw [hasF_nat]; exact HB3.out k hk1 hks
                have HFR := Lib.hid hfree
                clear hfree
                go_wp2
                go_region
                all_goals
                  go_wp2_with (go_at_call 19; first
                    | ((with_reducible refine (has_any o us k _ (H7.out.2.1.keep0 (gb_trans HG.out (gb_drew _ _))) HN.out).mono ?_); rintro e w' ⟨he, rfl⟩; rw [HFR.out] at he; subst he)
                    | ((with_reducible refine (has_any p us k _ (H7.out.1.keep0 (gb_trans HG.out (gb_drew _ _))) HN.out).mono ?_); rintro e w' ⟨he, rfl⟩; rw [HFR.out] at he; subst he))
                  go_roundw
                  case rel => exact ⟨k + 1, by omega, by omega, by go_num, gb_trans HG.out (gb_drew _ _)⟩
                  case measure => simp [intOf]; omega
              · have hkd : decide ((k : Int) < (xa : Int) + (xb : Int)) = false := decide_eq_false (by omega)
                go_wp2
                go_region
                all_goals
                  go_wp2
                  go_region
                  all_goals
                    go_wp2
                    go_roundw
                    case rel => exact ⟨i + 1, by omega, by go_num, by rw [HSU.out.1]; go_num, by rw [HSU.out.2], gb_trans (gb_trans HG.out (gb_drew _ _)) (gb_drew _ _)⟩
                    case measure => simp [intOf]; omega
          · obtain rfl : i = L.length := by omega
            have hfin : manyIn (L.take L.length) = F := by rw [List.take_length]; exact HL.out.2.2.1
            rw [hfin]
            have HG := Lib.hid hg
            clear hfin hg hml
            go_wp2_with (go_at_call 21; (with_reducible refine (HLo.out p _ (H7.out.1.keep0 HG.out)).mono ?_); rintro e w' ⟨rfl, rfl⟩)
            go_ret
            exact ⟨rfl, gb_trans H7.out.2.2 HG.out⟩
      · clear hin
        have H' := H
        have hB1 : (putB us).size = (n + 7) / 8 := by unfold putB; show (putF us).toArray.size = _; rw [List.size_toArray, putF_length, H.out.len]
        have hB2 : (putB us).data.toList = putF us := rfl
        have hfo : formOk n (putB us).data.toList = true := by rw [hB2, ← H.out.len]; exact formOk_putF us
        have hus : usOf n (putB us).data.toList = us := by rw [hB2, ← H.out.len]; exact usOf_putF us
        have HRd := Lib.hid (fun W => by have := pread_ok n (putB us) W hn1 hn2 hfo; rw [hus] at this; exact this : ∀ W, Calls Tryd.prog 23 #[.int .i64 (n : Nat), .string (putB us)] W fun e w' => e = .returned (.tuple #[.pointer (some ⟨W.heap.size, 0, none⟩), .int .i64 0]) ∧ PM w' W.heap.size us ∧ W.grownBy w' none)
        have HPu := Lib.hid (fun p W h => put_any p us W h HN.out)
        have hBb : (putB us).size ≤ 128 := by omega
        generalize putB us = B at HRd HPu hB1 hBb
        clear hB2 hfo hus H'
        obtain ⟨S, hS⟩ : ∃ S, B.size = S := ⟨_, rfl⟩
        have hS0 : 1 ≤ S := by omega
        have hSi : ((n : Int) + 7) / 8 = (S : Int) := by omega
        have hSw : IntKind.i64.wrap (S : Int) = (S : Int) := IntWalk.i64_in _ (by omega)
        have HS := Lib.hid (And.intro hS hB1)
        go_wp2_with fail
        go_at_call 26
        (with_reducible refine (HPu.out p _ H.out.pm).mono ?_)
        rintro e w2 ⟨rfl, g2⟩
        have P2 := H.out.pm.keep0 g2
        have G2 := gb_trans H.out.grown g2
        go_wp2_with fail
        go_at_call 23
        (with_reducible refine (HRd.out _).mono ?_)
        rintro e w3 ⟨rfl, O3, g3⟩
        have P3 := P2.keep0 g3
        have G3 := gb_trans G2 g3
        obtain ⟨o, ho⟩ : ∃ o, w2.heap.size = o := ⟨_, rfl⟩
        rw [ho] at O3 ⊢
        have H3 := Lib.hid (And.intro P3 (And.intro O3 G3))
        clear P2 G2 g2 P3 O3 G3 g3 ho
        go_wp2_with fail
        go_at_call 26
        (with_reducible refine (HPu.out o _ H3.out.2.1).mono ?_)
        rintro e w4 ⟨rfl, g4⟩
        have H4 := Lib.hid (And.intro (H3.out.1.keep0 g4) (And.intro (H3.out.2.1.keep0 g4) (gb_trans H3.out.2.2 g4)))
        clear g4
        have HLn := Lib.hid (show Calls Tryd.prog 27 #[.pointer (some ⟨o, 0, none⟩)] w4 fun e w' => e = .returned (.int .i64 (n : Nat)) ∧ w4 = w' by have := len_any o us w4 H4.out.2.1; rw [H.out.len] at this; exact this)
        obtain ⟨F, hF⟩ : ∃ F, leftF us = F := ⟨_, rfl⟩
        have HF := Lib.hid hF
        have HLo := Lib.hid (fun p W h => by have := left_any p us W h HN.out; rw [hF] at this; exact this : ∀ p W, PM W p us → Calls Tryd.prog 21 #[.pointer (some ⟨p, 0, none⟩)] W fun e w' => e = .returned (.int .i64 (F : Nat)) ∧ W = w')
        clear hF
        go_wp2_with (first
          | (go_at_call 27; (with_reducible refine HLn.out.mono ?_); rintro e w' ⟨rfl, rfl⟩)
          | (go_at_call 21; first
            | ((with_reducible refine (HLo.out o _ H4.out.2.1).mono ?_); rintro e w' ⟨rfl, rfl⟩)
            | ((with_reducible refine (HLo.out p _ H4.out.1).mono ?_); rintro e w' ⟨rfl, rfl⟩)))
        have hsh : (B.extract 0 (S - 1)).size ≠ (n + 7) / 8 := by have := HS.out; simp; omega
        have HSh := Lib.hid (fun W => read_size n (B.extract 0 (S - 1)) W hn1 hn2 hsh)
        clear hsh
        go_at_call 23
        (with_reducible refine (HSh.out _).mono ?_)
        rintro e w5 ⟨rfl, g5⟩
        have H5 := Lib.hid (And.intro (H4.out.1.keep0 g5) (And.intro (H4.out.2.1.keep0 g5) (gb_trans H4.out.2.2 g5)))
        clear g5
        go_wp2_with fail
        have hlg : (B ++ ⟨#[0]⟩ : ByteArray).size ≠ (n + 7) / 8 := by have := HS.out; rw [ByteArray.size_append]; show B.size + 1 ≠ _; omega
        have HLg := Lib.hid (fun W => read_size n (B ++ ⟨#[0]⟩) W hn1 hn2 hlg)
        clear hlg
        go_at_call 23
        (with_reducible refine (HLg.out _).mono ?_)
        rintro e w6 ⟨rfl, g6⟩
        have H6 := Lib.hid (And.intro (H5.out.1.keep0 g6) (And.intro (H5.out.2.1.keep0 g6) (gb_trans H5.out.2.2 g6)))
        clear g6
        go_wp2_with fail
        go_at_call 25
        (with_reducible refine (runs_any o us _ H6.out.2.1 (HT.out.keep0 H6.out.2.2) HN.out).mono ?_)
        rintro e w7 ⟨vr, rfl, hvr, g7⟩
        have H7 := Lib.hid (And.intro (H6.out.1.keep0 g7) (And.intro (H6.out.2.1.keep0 g7) (gb_trans H6.out.2.2 g7)))
        clear g7
        have hap := runsTo_apart (us := us) us.length
        have hbd := fun (x : Nat × Nat) (hx : x ∈ runsF us) => runsF_bd hx
        have hmy := runsF_many us
        have hrl := runsF_len us
        obtain ⟨L, hL⟩ : ∃ L, runsF us = L := ⟨_, rfl⟩
        rw [show runsTo us us.length = L from hL] at hap
        rw [hL] at hvr hbd hmy hrl
        rw [HF.out] at hmy
        rw [H.out.len] at hbd
        have HL := Lib.hid (And.intro hap (And.intro hbd (And.intro hmy hvr)))
        have hLn : L.length ≤ 1024 := Nat.le_trans hrl HN.out
        have hFn : F ≤ 1024 := by have := leftF_le us; have := HN.out; have := HF.out; omega
        obtain ⟨ro, rcap, rfl, _, _, _, -⟩ := hvr
        clear hap hbd hmy hrl hL hSi hSw
        go_wp2_with fail
        go_loopw [15, 16, 18] (fun v15 v16 v18 wr => ∃ i : Nat, i ≤ L.length ∧ v18 = .int .i64 i ∧ v15 = .int .i64 (manyIn (L.take i) : Nat) ∧ v16 = .int .i64 (lastOf L i) ∧ w7.grownBy wr none) (fun _ _ v _ => L.length - (intOf v).toNat)
        case atStart => exact ⟨0, by omega, rfl, rfl, rfl, gb_refl _ _⟩
        case round =>
          obtain ⟨i, hi, rfl, rfl, rfl, hg⟩ := hrel
          have hml := many_le (L := L) i
          rw [HL.out.2.2.1] at hml
          by_cases hil : i < L.length
          · obtain ⟨x, xc, hx1, _, hx2⟩ := prs_at HL.out.2.2.2 (by omega)
            injection hx1 with hx1 _ hx3
            subst hx1
            obtain rfl : rcap = xc := hx3
            have d1 := (hx2 i hil).1
            have d2 := (hx2 i hil).2
            rw [show x.add (i * 2 + 1) = (x.add (i * 2)).add 1 from (add_add _ _ _).symm] at d2
            replace d2 : w7.cell? ⟨(x.add (i * 2)).block, (x.add (i * 2)).off + 1, none⟩ = some (.int .i64 (L[i].2 : Nat)) := d2
            have HD := Lib.hid (And.intro d1 d2)
            have c1 := hg.cell d1 (by simp)
            have c2 := hg.cell d2 (by simp)
            clear d1 d2
            have hB := HL.out.2.1 L[i] (List.getElem_mem hil)
            have hlt := lastOf_lt HL.out.1 i hil
            have hms := many_take i hil
            have hms2 := many_le (L := L) (i + 1)
            rw [HL.out.2.2.1] at hms2
            have HSU := Lib.hid (And.intro hms (lastOf_succ i hil))
            rw [hms] at hms2
            obtain ⟨LO, hLO⟩ : ∃ LO, lastOf L i = LO := ⟨_, rfl⟩
            obtain ⟨MA, hMA⟩ : ∃ MA, manyIn (L.take i) = MA := ⟨_, rfl⟩
            rw [hLO] at hlt ⊢
            rw [hMA] at hml hms2 HSU ⊢
            obtain ⟨hb1, hb2, hb3⟩ := hB
            have HB3 := Lib.hid hb3
            have HG := Lib.hid hg
            generalize L[i].1 = xa at *
            generalize L[i].2 = xb at *
            have h1 : ¬ ((xb : Int) < 1) := by omega
            have h2 : ¬ ((xa : Int) ≤ LO) := by omega
            have h3 : ¬ ((xa : Int) < 0) := by omega
            clear hx2 hms hLO hMA hb3 hg
            go_wp2_with fail
            go_loopw [19] (fun v wq => ∃ k : Nat, xa ≤ k ∧ k ≤ xa + xb ∧ v = .int .i64 k ∧ w7.grownBy wq none) (fun v _ => xa + xb - (intOf v).toNat)
            case atStart => exact ⟨xa, by omega, by omega, rfl, HG.out⟩
            case round =>
              clear c1 c2 HG
              obtain ⟨k, hk1, hk2, rfl, hg⟩ := hrel
              have c1 := hg.cell HD.out.1 (by simp)
              have c2 := hg.cell HD.out.2 (by simp)
              have hsw : IntKind.i64.wrap ((xa : Int) + (xb : Int)) = (xa : Int) + (xb : Int) := IntWalk.i64_in _ (by omega)
              have HG := Lib.hid hg
              clear hg
              by_cases hks : k < xa + xb
              · have hkd : decide ((k : Int) < (xa : Int) + (xb : Int)) = true := decide_eq_true (by omega)
                have hkn : ¬ ((n : Int) ≤ (k : Int)) := by omega
                have hfree : hasF us (k : Int) = false := by rw [hasF_nat]; exact HB3.out k hk1 hks
                have HFR := Lib.hid hfree
                clear hfree
                go_wp2
                go_region
                all_goals
                  go_wp2_with (go_at_call 19; first
                    | ((with_reducible refine (has_any o us k _ (H7.out.2.1.keep0 (gb_trans HG.out (gb_drew _ _))) HN.out).mono ?_); rintro e w' ⟨he, rfl⟩; rw [HFR.out] at he; subst he)
                    | ((with_reducible refine (has_any p us k _ (H7.out.1.keep0 (gb_trans HG.out (gb_drew _ _))) HN.out).mono ?_); rintro e w' ⟨he, rfl⟩; rw [HFR.out] at he; subst he))
                  go_roundw
                  case rel => exact ⟨k + 1, by omega, by omega, by go_num, gb_trans HG.out (gb_drew _ _)⟩
                  case measure => simp [intOf]; omega
              · have hkd : decide ((k : Int) < (xa : Int) + (xb : Int)) = false := decide_eq_false (by omega)
                go_wp2
                go_region
                all_goals
                  go_wp2
                  go_region
                  all_goals
                    go_wp2
                    go_roundw
                    case rel => exact ⟨i + 1, by omega, by go_num, by rw [HSU.out.1]; go_num, by rw [HSU.out.2], gb_trans (gb_trans HG.out (gb_drew _ _)) (gb_drew _ _)⟩
                    case measure => simp [intOf]; omega
          · obtain rfl : i = L.length := by omega
            have hfin : manyIn (L.take L.length) = F := by rw [List.take_length]; exact HL.out.2.2.1
            rw [hfin]
            have HG := Lib.hid hg
            clear hfin hg hml
            go_wp2_with (go_at_call 21; (with_reducible refine (HLo.out p _ (H7.out.1.keep0 HG.out)).mono ?_); rintro e w' ⟨rfl, rfl⟩)
            go_ret
            exact ⟨rfl, gb_trans H7.out.2.2 HG.out⟩
end Go.Proofs.YtaihcbkdbdhihaaDoor
