/-
  FateBack's walk: for all choices and numbers of writes the statement's function returns true; condition: the table of masks reads as the program lays it.
-/
import Derived.Test.YtefpnhckplcfgaaDoorFd1
import Derived.Test.YtefpnhckplcfgaaDoorFb
import Derived.Test.YtefpnhckplcfgaaDoorFp1
namespace Go.Proofs.YtefpnhckplcfgaaDoor
open Go.RowKit

theorem manyN_u8 (c : UInt8) : manyN ((c.toNat : Nat) : Int) = c.toNat := by
  have := c.toNat_lt
  unfold manyN; omega
set_option maxRecDepth 100000 in
set_option maxHeartbeats 2000000 in
theorem back_walk (vc : Value) (cs : List UInt8) (c : UInt8) (w : World) (hm : Masks w) (hv : Bts w vc cs) :
    Calls Tryd.prog 6 #[vc, .int .u8 (c.toNat : Nat)] w (TrueGot w) := by
  have HM := Lib.hid hm
  have HV := Lib.hid hv
  obtain ⟨ao, ca, rfl, _, _, _, _⟩ := hv
  have hcm := manyN_u8 c
  have hc256 := c.toNat_lt
  obtain ⟨N, hN⟩ : ∃ N, c.toNat = N := ⟨_, rfl⟩
  rw [hN] at hcm hc256 ⊢
  have hmay := read_may cs N
  have hlen := cameF_length cs N
  have HRd : ∀ W, w.grownBy W none → Calls Tryd.prog 10 #[.slice ao cs.length ca, .int .i64 (N : Nat)] W (FateGot W (cameF cs N) (tornF cs N) (atF cs N)) := by
    intro W g
    have h := read_any (.slice ao cs.length ca) cs (N : Nat) W (HM.out.keep0 g) (HV.out.keep0 g) (by omega) (by omega)
    rw [hcm] at h
    exact h
  generalize cameF cs N = l at hmay hlen HRd
  generalize tornF cs N = t at hmay HRd
  generalize atF cs N = a at hmay HRd
  have HR := Lib.hid HRd
  have Hmay := Lib.hid hmay
  have Hcm := Lib.hid hcm
  have hae := ahead_end l hmay
  have htl : t = -1 ∨ (0 ≤ t ∧ t < (N : Int)) := by
    rcases may_cases hmay with ⟨h1, _⟩ | ⟨i, rfl, hi, _⟩
    · exact .inl h1
    · exact .inr ⟨by omega, by omega⟩
  have HAe := Lib.hid hae
  clear hm HRd hmay hcm hae hN
  go_enter Tryd.func6, Tryd.ntmps6
  go_wp2_with (first
    | (go_at_call 14; (with_reducible refine (works_any _ HM.out).mono ?_); rintro e w0 ⟨rfl, g0⟩)
    | (go_at_call 10; (with_reducible refine (HR.out _ g0).mono ?_); rintro e w1 ⟨v1, rfl, hv1, g1⟩; obtain ⟨o1, cap1, rfl, hn1, hx1⟩ := bls_parts hv1; rw [hlen]))
  have b0 := Blk.mk w1 27 #[.slice o1 N cap1, .int .i64 t, .int .i64 a]
  have g2 := gb_trans (gb_trans g0 g1) (gb_alloc w1 (.cells #[.slice o1 N cap1, .int .i64 t, .int .i64 a] 27) none)
  have HV1 := Lib.hid (hv1.keep0 (gb_alloc w1 (.cells #[.slice o1 N cap1, .int .i64 t, .int .i64 a] 27) none))
  generalize w1.alloc (.cells #[.slice o1 N cap1, .int .i64 t, .int .i64 a] 27) = w2 at b0 g2 HV1 ⊢
  clear hv1 hx1 hn1
  have hx1 : ∀ x, o1 = some x → ∀ j u, (bools l)[j]? = some u → w2.cell? (x.add j) = some u := by
    obtain ⟨_, _, he1, _, _, _, hx⟩ := HV1.out
    injection he1 with h1 h2 h3
    subst h1
    exact hx
  have hn1 : o1 = none → l.length = 0 := by
    obtain ⟨_, _, he1, _, _, hn, _⟩ := HV1.out
    injection he1 with h1 h2 h3
    subst h1
    exact fun e => (hn e).1
  have HX1 := Lib.hid hx1
  have HN1 := Lib.hid hn1
  clear hx1 hn1
  have c00 := b0.cell 0 rfl
  have c01 := b0.cell 1 rfl
  have c02 := b0.cell 2 rfl
  go_loop [6, 7] (fun v6 v7 => ∃ k : Nat, k ≤ t.toNat ∧ v7 = .int .i64 k ∧ v6 = .int .i64 ((cameTo l k).length : Nat)) (fun _ v => t.toNat - (intOf v).toNat)
  case atStart => exact ⟨0, by omega, rfl, rfl⟩
  case round =>
    obtain ⟨k, hk, rfl, rfl⟩ := hrel
    have hck := cameTo_le l k
    by_cases hlt : (k : Int) < t
    · have hkl : k < l.length := by omega
      have hd1 : decide ((k : Int) < t) = true := decide_eq_true hlt
      have hd2 : decide ((k : Int) < (N : Int)) = true := decide_eq_true (by omega)
      cases o1 with
      | none => have := HN1.out rfl; omega
      | some x =>
        have d0 := HX1.out x rfl k _ (bools_at hkl)
        have hgd : l.getD k false = l[k] := by simp [List.getD, hkl]
        cases hbk : l[k] with
        | false =>
          rw [hbk] at d0 hgd
          have E := Lib.hid (cameTo_no hgd)
          clear hbk hgd
          go_wp2
          go_round
          case rel => exact ⟨k + 1, by omega, by go_num, by rw [E.out]⟩
          case measure => simp [intOf]; omega
        | true =>
          rw [hbk] at d0 hgd
          have E := Lib.hid (cameTo_yes hgd)
          clear hbk hgd
          go_wp2
          go_round
          case rel => exact ⟨k + 1, by omega, by go_num, by rw [E.out, List.length_append]; go_num⟩
          case measure => simp [intOf]; omega
    · have hd1 : decide ((k : Int) < t) = false := decide_eq_false hlt
      have hkt : k = t.toNat := by omega
      have hAk : (cameTo l k).length = aheadN l t := by rw [HAe.out, hkt]
      obtain ⟨A, hA⟩ : ∃ A, aheadN l t = A := ⟨_, rfl⟩
      rw [hA] at hAk
      rw [hAk]
      have HA := Lib.hid hA
      have HP := Lib.hid (put_any (.slice o1 l.length cap1) l t a w2 (HM.out.keep0 g2) HV1.out (by omega))
      have hlF : longF l t = decide (127 < A) := by unfold longF; rw [hA, decide_eq_false (p := 4096 < _) (by omega), Bool.or_false]
      have HL := Lib.hid hlF
      have hl0 := b0.lt
      rw [hlen] at HP
      clear hck hkt hAk hA hlF
      by_cases hA1 : 127 < A
      · have hE := Lib.hid (put_long l t a Hmay.out (by rw [HL.out]; exact decide_eq_true hA1))
        have hd3 : decide ((A : Int) < 128) = false := decide_eq_false (by omega)
        go_wp2_with (go_at_call 15; (with_reducible refine HP.out.mono ?_); rintro e w3 ⟨v2, rfl, hv2, g3⟩; rw [hE.out.1]; replace b0 := b0.keep0 g3; clear c00 c01 c02; have c00 := b0.cell 0 rfl; have c01 := b0.cell 1 rfl; have c02 := b0.cell 2 rfl)
        go_ret
        exact ⟨rfl, gb_trans g2 g3⟩
      · have hE := Lib.hid (put_ok l t a Hmay.out (by rw [HL.out]; exact decide_eq_false hA1))
        have hd3 : decide ((A : Int) < 128) = true := decide_eq_true (by omega)
        have hB := put_back l t a Hmay.out (by rw [HL.out]; exact decide_eq_false hA1)
        rw [hlen] at hB
        have HBk := Lib.hid hB
        clear hB
        go_wp2_with fail
        go_at_call 15
        (with_reducible refine HP.out.mono ?_)
        rintro e w3 ⟨v2, rfl, hv2, g3⟩
        rw [hE.out.1]
        rw [hE.out.2, hlen] at hv2
        replace b0 := b0.keep0 g3
        clear c00 c01 c02 HP hE
        generalize bitsTo l N ++ tailB l t a = B at hv2 HBk
        have g4 := gb_trans g2 g3
        have HR2 : Hid (Calls Tryd.prog 10 #[v2, .int .i64 (N : Nat)] w3 (FateGot w3 l t a)) := by
          refine Lib.hid ?_
          have h := read_any v2 _ (N : Nat) w3 (HM.out.keep0 g4) hv2 (by omega) (by omega)
          rw [Hcm.out, HBk.out.1, HBk.out.2.1, HBk.out.2.2] at h
          exact h
        obtain ⟨o2, cap2, rfl, _, _, _, _⟩ := hv2
        have c00 := b0.cell 0 rfl
        have c01 := b0.cell 1 rfl
        have c02 := b0.cell 2 rfl
        go_wp2_with fail
        go_at_call 10
        (with_reducible refine HR2.out.mono ?_)
        rintro e w4 ⟨v4, rfl, hv4, g5⟩
        obtain ⟨o4, cap4, rfl, hn4, hx4⟩ := bls_parts hv4
        rw [hlen]
        have HN4 := Lib.hid hn4
        have g6 := gb_trans g5 (gb_alloc w4 (.cells #[.slice o4 N cap4, .int .i64 t, .int .i64 a] 27) none)
        have HX4 : Hid (∀ x, o4 = some x → ∀ j u, (bools l)[j]? = some u → (w4.alloc (.cells #[.slice o4 N cap4, .int .i64 t, .int .i64 a] 27)).cell? (x.add j) = some u) :=
          Lib.hid (fun x e j u hj => (gb_alloc w4 (.cells #[.slice o4 N cap4, .int .i64 t, .int .i64 a] 27) none).cell (hx4 x e j u hj) (by simp))
        have b4 := Blk.mk w4 27 #[.slice o4 N cap4, .int .i64 t, .int .i64 a]
        have b6 := b0.keep0 g6
        have HX6 : Hid (∀ x, o1 = some x → ∀ j u, (bools l)[j]? = some u → (w4.alloc (.cells #[.slice o4 N cap4, .int .i64 t, .int .i64 a] 27)).cell? (x.add j) = some u) :=
          Lib.hid (fun x e j u hj => (gb_trans g3 g6).cell (HX1.out x e j u hj) (by simp))
        have g7 := gb_trans g4 g6
        clear hv4 hn4 hx4 c00 c01 c02 b0 g5 g6
        have q0 := b4.cell 0 rfl
        have q1 := b4.cell 1 rfl
        have q2 := b4.cell 2 rfl
        have c00 := b6.cell 0 rfl
        have c01 := b6.cell 1 rfl
        have c02 := b6.cell 2 rfl
        have hlb6 := b6.lt
        have hne1 : (t != t) = false := by simp
        have hne2 : (a != a) = false := by simp
        go_wp2_with fail
        generalize w4.alloc (.cells #[.slice o4 N cap4, .int .i64 t, .int .i64 a] 27) = w5 at HX4 b4 b6 HX6 g7 q0 q1 q2 c00 c01 c02 hlb6 ⊢
        go_loopw [11] (fun v wr => ∃ k : Nat, k ≤ N ∧ v = .int .i64 k ∧ w5.grownBy wr none) (fun v _ => N - (intOf v).toNat)
        case atStart => exact ⟨0, by omega, rfl, gb_refl _ _⟩
        case round =>
          obtain ⟨k, hk, rfl, hg⟩ := hrel
          replace q0 := hg.cell q0 (by simp)
          replace c00 := hg.cell c00 (by simp)
          by_cases hkN : k < N
          · cases o1 with
            | none => have := HN1.out rfl; omega
            | some x =>
              cases o4 with
              | none => have := HN4.out rfl; omega
              | some y =>
                have hkl : k < l.length := by omega
                have d0 := hg.cell (HX6.out x rfl k _ (bools_at hkl)) (by simp)
                have d1 := hg.cell (HX4.out y rfl k _ (bools_at hkl)) (by simp)
                have hkN' : (k : Int) < (N : Int) := by omega
                have hk0 : (0 : Int) ≤ (k : Int) := by omega
                generalize l[k] = z at d0 d1
                have hzz : (z != z) = false := by simp
                go_wp2
                go_quiet (fail)
                go_wp2
                go_roundw
                case rel => exact ⟨k + 1, by omega, by go_num, gb_trans hg (gb_drewN _ _ _)⟩
                case measure => simp [intOf]; omega
          · obtain rfl : k = N := by omega
            go_wp2
            go_ret
            exact ⟨rfl, gb_trans g7 hg⟩
end Go.Proofs.YtefpnhckplcfgaaDoor
