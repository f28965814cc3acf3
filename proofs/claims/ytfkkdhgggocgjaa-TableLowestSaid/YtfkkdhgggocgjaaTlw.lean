/-
  The walk of TableLowest, over this seat's translation; conditions: the slice reads as numbers of 16 bits.
-/
import Derived.Test.YtfkkdhgggocgjaaTn
namespace Go.Proofs.Ytfkkdhgggocgjaa
open Go.RowKit

theorem us_shape {w : World} {v : Value} {l : List Nat} (h : Us w v l) : ∃ ao cap, v = .slice ao l.length cap ∧ l.length ≤ cap ∧ (ao = none → l.length = 0) ∧ ∀ a, ao = some a → ∀ j, j < l.length → w.cell? (a.add j) = some (.int .u16 (l.getD j 0 : Nat)) := by
  obtain ⟨ao, cap, h1, h2, h3, h4, h5⟩ := h
  exact ⟨ao, cap, h1, h2, fun e => (h4 e).1, fun a e j hj => h5 a e j _ (u16C_at hj)⟩
theorem drop_arm (p : Nat) (s : TB) (i e' : Int) (hE : dropE s i = e') (w : World) (h : PT w p s) : Calls Try.prog 8 #[.pointer (some ⟨p, 0, none⟩), .int .i64 i] w fun e w' => e = .returned (.int .i64 e') ∧ PT w' p (dropF s i) ∧ w.grownBy w' (some p) := by
  subst hE; exact drop_any p s i w h
theorem set_arm (p : Nat) (s : TB) (i v e' : Int) (hE : setE i v = e') (w : World) (h : PT w p s) : Calls Try.prog 7 #[.pointer (some ⟨p, 0, none⟩), .int .i64 i, .int .i64 v] w fun e w' => e = .returned (.int .i64 e') ∧ PT w' p (setF s i v) ∧ w.grownBy w' (some p) := by
  subst hE; exact set_any p s i v w h
theorem before_arm (a : Addr) (cap k j : Nat) (l : List Nat) (i : Int) (b : Bool) (hlen : l.length = j) (hi : i = (k : Int) + 1) (hb : toldB l k = b) (w : World) (hc : ∀ j, j < l.length → w.cell? (a.add j) = some (.int .u16 (l.getD j 0 : Nat))) (hu : ∀ j, l.getD j 0 < 65536) (hl : j ≤ 1000000) (hk : k < 960) :
    Calls Try.prog 9 #[.slice (some a) j cap, .int .i64 i] w (BeforeGot w b) := by
  subst hlen hi hb; exact before_some a cap k l w hc hu hl hk
theorem take_cells {a : Addr} {l : List Nat} {w : World} (hc : ∀ j, j < l.length → w.cell? (a.add j) = some (.int .u16 (l.getD j 0 : Nat))) (m : Nat) : ∀ j, j < (l.take m).length → w.cell? (a.add j) = some (.int .u16 ((l.take m).getD j 0 : Nat)) := by
  intro j hj
  rw [List.length_take] at hj
  rw [hc j (by omega), List.getD_eq_getElem?_getD, List.getD_eq_getElem?_getD, List.getElem?_take, if_pos (by omega)]
theorem take_small {l : List Nat} (hu : ∀ j, l.getD j 0 < 65536) (m : Nat) : ∀ j, (l.take m).getD j 0 < 65536 := by
  intro j
  rw [List.getD_eq_getElem?_getD, List.getElem?_take]
  split
  · have := hu j; rw [List.getD_eq_getElem?_getD] at this; exact this
  · show (0 : Nat) < 65536; omega
theorem take_one {l : List Nat} {j : Nat} (h : j < l.length) : l.take (j + 1) = l.take j ++ [l.getD j 0] := by
  rw [List.take_add_one, List.getD_eq_getElem?_getD, List.getElem?_eq_getElem h]; rfl
set_option maxRecDepth 100000 in
set_option maxHeartbeats 4000000 in
theorem lowest_none (n cap : Nat) (w : World) (hn : n < 65536) :
    Calls Try.prog 3 #[.int .u16 (n : Nat), .slice none 0 cap] w fun e w' => e = .returned (.bool true) ∧ w.grownBy w' none := by
  obtain ⟨m, hm⟩ : ∃ m, n % 961 = m := ⟨_, rfl⟩
  have hm1 : m ≤ 960 := by omega
  have hw1 : IntKind.i64.wrap (n : Int) = (n : Int) := IntWalk.i64_in _ (by omega)
  have hq1 : (n : Int).tmod 961 = (m : Int) := by rw [← hm]; exact (Int.ofNat_tmod _ _).symm
  have hq2 : (n : Int) % 961 = (m : Int) := by rw [← hm]; rfl
  clear hm
  go_enter Try.func3, Try.ntmps3
  go_wp2_with (first
    | (go_at_call 4; (with_reducible refine (works_any _).mono ?_); rintro e w1 ⟨rfl, g0⟩)
    | (go_at_call 5; (with_reducible refine (tnew_any _).mono ?_); rintro e w2 ⟨rfl, P0, g1⟩))
  have hpw : w.heap.size ≤ w1.heap.size := g0.size
  have hS0 : ∃ s, PT w2 w1.heap.size s ∧ UpS [] 0 s ∧ w.grownBy w2 none := ⟨newF, P0, up_new, gb_trans g0 g1⟩
  clear hw1 hq1 hq2 P0 g1 g0
  generalize hp : w1.heap.size = p at *
  clear hp
  go_loopw [7] (fun i wr => ∃ k : Nat, k ≤ m ∧ i = .int .i64 ((k : Int) + 1) ∧ ∃ s, PT wr p s ∧ UpS [] k s ∧ w.grownBy wr none) (fun i _ => 2000 - (intOf i).toNat)
  case atStart => exact ⟨0, by omega, rfl, hS0⟩
  case round =>
    obtain ⟨k, hk, rfl, s, hP, hU, hg⟩ := hrel
    have hfit := hP.fit.1
    clear hS0
    by_cases hlt : k < m
    · have HL := Lib.hid (lowest_k p s ((k : Int) + 1) 0 (up_low hU hfit (by omega)).1 (up_low hU hfit (by omega)).2 _ hP)
      have HS := Lib.hid (set_arm p s ((k : Int) + 1) (2 + ((k : Int) + 1)) 0 (up_setE (by omega)))
      have HN := Lib.hid (up_set hU hfit (show k < 960 by omega))
      have HP := Lib.hid hP
      have HG := Lib.hid hg
      clear hP hU hg hfit
      go_wp2_with (first
        | (go_at_call 6; (with_reducible refine HL.out.mono ?_); rintro e w3 ⟨rfl, g3⟩)
        | (go_at_call 7; (with_reducible refine (HS.out _ (HP.out.keep0 g3)).mono ?_); rintro e w4 ⟨rfl, P4, g4⟩))
      go_roundw
      case rel => exact ⟨k + 1, by omega, by go_num, _, P4, HN.out, gb_step (gb_trans HG.out g3) g4 (by omega)⟩
      case measure => simp [intOf]; omega
    · obtain rfl : k = m := by omega
      have hS1 : ∃ s, PT wr p s ∧ UpS [] k s ∧ Least (k + 1) k s ∧ w.grownBy wr none := ⟨s, hP, hU, least_new hU hm1, hg⟩
      clear hP hU hg hfit
      go_wp2
      go_loopw [10, 11] (fun t i wr => ∃ j : Nat, j ≤ 0 ∧ j ≤ 50 ∧ i = .int .i64 (j : Nat) ∧ ∃ L : Nat, t = .int .i64 (L : Nat) ∧ ∃ s, PT wr p s ∧ UpS [] k s ∧ Least L k s ∧ w.grownBy wr none) (fun _ i _ => 100 - (intOf i).toNat)
      case atStart => exact ⟨0, by omega, by omega, rfl, k + 1, rfl, hS1⟩
      case round =>
        obtain ⟨j, hj, hj2, rfl, L, rfl, s, hP, hU, hL, hg⟩ := hrel
        have hfit := hP.fit.1
        clear hS1
        have hLb := And.intro hL.1 hL.2.1
        obtain rfl : j = 0 := by omega
        have hlow := least_low hL hfit hm1
        · skip
          by_cases hbig : 960 < L
          · rw [if_pos hbig] at hlow
            have HL := Lib.hid (lowest_k p s 0 15 (by rw [hlow.1]; rfl) (by rw [hlow.2]; rfl) _ hP)
            have HG := Lib.hid hg
            clear hP hU hL hg hfit hlow
            go_wp2_with (go_at_call 6; (with_reducible refine HL.out.mono ?_); rintro e w3 ⟨rfl, g3⟩)
            go_ret
            exact ⟨rfl, gb_trans HG.out g3⟩
          · rw [if_neg hbig] at hlow
            have HL := Lib.hid (lowest_k p s (L : Nat) 0 (by rw [hlow.1]) (by rw [hlow.2]; rfl) _ hP)
            have HG := Lib.hid hg
            have hLL : ((L : Int) == (L : Int)) = true := by simp
            clear hP hU hL hg hfit hlow
            go_wp2_with (go_at_call 6; (with_reducible refine HL.out.mono ?_); rintro e w3 ⟨rfl, g3⟩)
            go_ret
            exact ⟨ret_bool (by simp), gb_trans HG.out g3⟩
set_option maxRecDepth 100000 in
set_option maxHeartbeats 4000000 in
theorem lowest_some (n : Nat) (a : Addr) (cap : Nat) (l : List Nat) (w : World) (hn : n < 65536) (hcap : l.length ≤ cap) (hcell : ∀ j, j < l.length → w.cell? (a.add j) = some (.int .u16 (l.getD j 0 : Nat))) (hu : ∀ j, l.getD j 0 < 65536) (hl : l.length ≤ 9223372036854775807) :
    Calls Try.prog 3 #[.int .u16 (n : Nat), .slice (some a) l.length cap] w fun e w' => e = .returned (.bool true) ∧ w.grownBy w' none := by
  obtain ⟨m, hm⟩ : ∃ m, n % 961 = m := ⟨_, rfl⟩
  have hm1 : m ≤ 960 := by omega
  have hw1 : IntKind.i64.wrap (n : Int) = (n : Int) := IntWalk.i64_in _ (by omega)
  have hq1 : (n : Int).tmod 961 = (m : Int) := by rw [← hm]; exact (Int.ofNat_tmod _ _).symm
  have hq2 : (n : Int) % 961 = (m : Int) := by rw [← hm]; rfl
  have HC := Lib.hid hcell
  have HU := Lib.hid hu
  obtain ⟨N, hN⟩ : ∃ N, l.length = N := ⟨_, rfl⟩
  have HN0 := Lib.hid hN
  rw [hN] at hcap hl ⊢
  clear hm hcell hu hN
  go_enter Try.func3, Try.ntmps3
  go_wp2_with (first
    | (go_at_call 4; (with_reducible refine (works_any _).mono ?_); rintro e w1 ⟨rfl, g0⟩)
    | (go_at_call 5; (with_reducible refine (tnew_any _).mono ?_); rintro e w2 ⟨rfl, P0, g1⟩))
  have hpw : w.heap.size ≤ w1.heap.size := g0.size
  have hS0 : ∃ s, PT w2 w1.heap.size s ∧ UpS [] 0 s ∧ w.grownBy w2 none := ⟨newF, P0, up_new, gb_trans g0 g1⟩
  clear hw1 hq1 hq2 P0 g1 g0
  generalize hp : w1.heap.size = p at *
  clear hp
  go_loopw [7] (fun i wr => ∃ k : Nat, k ≤ m ∧ i = .int .i64 ((k : Int) + 1) ∧ ∃ s, PT wr p s ∧ UpS [] k s ∧ w.grownBy wr none) (fun i _ => 2000 - (intOf i).toNat)
  case atStart => exact ⟨0, by omega, rfl, hS0⟩
  case round =>
    obtain ⟨k, hk, rfl, s, hP, hU, hg⟩ := hrel
    have hfit := hP.fit.1
    clear hS0
    by_cases hlt : k < m
    · have HL := Lib.hid (lowest_k p s ((k : Int) + 1) 0 (up_low hU hfit (by omega)).1 (up_low hU hfit (by omega)).2 _ hP)
      have HS := Lib.hid (set_arm p s ((k : Int) + 1) (2 + ((k : Int) + 1)) 0 (up_setE (by omega)))
      have HN := Lib.hid (up_set hU hfit (show k < 960 by omega))
      have HP := Lib.hid hP
      have HG := Lib.hid hg
      clear hP hU hg hfit
      go_wp2_with (first
        | (go_at_call 6; (with_reducible refine HL.out.mono ?_); rintro e w3 ⟨rfl, g3⟩)
        | (go_at_call 7; (with_reducible refine (HS.out _ (HP.out.keep0 g3)).mono ?_); rintro e w4 ⟨rfl, P4, g4⟩))
      go_roundw
      case rel => exact ⟨k + 1, by omega, by go_num, _, P4, HN.out, gb_step (gb_trans HG.out g3) g4 (by omega)⟩
      case measure => simp [intOf]; omega
    · obtain rfl : k = m := by omega
      have hS1 : ∃ s, PT wr p s ∧ UpS [] k s ∧ Least (k + 1) k s ∧ w.grownBy wr none := ⟨s, hP, hU, least_new hU hm1, hg⟩
      clear hP hU hg hfit
      go_wp2
      go_loopw [10, 11] (fun t i wr => ∃ j : Nat, j ≤ N ∧ j ≤ 50 ∧ i = .int .i64 (j : Nat) ∧ ∃ L : Nat, t = .int .i64 (L : Nat) ∧ ∃ s, PT wr p s ∧ UpS (l.take j) k s ∧ Least L k s ∧ w.grownBy wr none) (fun _ i _ => 100 - (intOf i).toNat)
      case atStart => exact ⟨0, by omega, by omega, rfl, k + 1, rfl, hS1⟩
      case round =>
        obtain ⟨j, hj, hj2, rfl, L, rfl, s, hP, hU, hL, hg⟩ := hrel
        have hfit := hP.fit.1
        clear hS1
        have hLb := And.intro hL.1 hL.2.1
        by_cases hj50 : j < N ∧ j < 50
        · obtain ⟨hjN, hj50⟩ := hj50
          have hjl : j < l.length := by rw [HN0.out]; exact hjN
          have hx := HU.out j
          have hxc := hg.cell (HC.out j hjl) (by simp)
          have hlen : (l.take j).length = j := by rw [List.length_take]; omega
          obtain ⟨x, he⟩ : ∃ x, l.getD j 0 = x := ⟨_, rfl⟩
          rw [he] at hx hxc
          have HE := Lib.hid he
          obtain ⟨q, hq⟩ : ∃ q, x % 960 = q := ⟨_, rfl⟩
          have hw2 : IntKind.i64.wrap (x : Int) = (x : Int) := IntWalk.i64_in _ (by omega)
          have hr1 : (x : Int).tmod 960 = (q : Int) := by rw [← hq]; exact (Int.ofNat_tmod _ _).symm
          have hr2 : (x : Int) % 960 = (q : Int) := by rw [← hq]; rfl
          have hq3 : q < 960 := by omega
          have HQ := Lib.hid hq
          clear he hq
          have hcomm : (1 : Int) + (q : Int) = (q : Int) + 1 := by omega
          cases htold : toldB (l.take j) q
          · by_cases hqk : q < k
            · by_cases hless : q + 1 < L
              · have HD := Lib.hid (fun w h => drop_arm p s (1 + (q : Int)) 0 (by rw [hcomm]; exact (drop_E0 hU hq3 hqk htold)) w h)
                have HT := Lib.hid (And.intro hlen (And.intro hcomm htold))
                have HN : Hid (UpS (l.take (j + 1)) k (dropF s (1 + (q : Int))) ∧ Least (q + 1) k (dropF s (1 + (q : Int)))) := Lib.hid (by rw [hcomm, take_one hjl, HE.out]; exact ⟨drop_up hU hfit hq3 HQ.out, least_lt hL hfit hq3 hqk hless⟩)
                have HP := Lib.hid hP
                have HG := Lib.hid hg
                have HZ := Lib.hid (fun (w4 : World) (g4 : wr.grownBy w4 (some p)) i hi => (gb_step hg g4 hpw).cell (HC.out i hi) (by simp))
                clear hP hU hL hg hfit hcomm hlen htold
                go_wp2_with (first
                  | (go_at_call 8; (with_reducible refine (HD.out _ HP.out).mono ?_); rintro e w4 ⟨rfl, P4, g4⟩)
                  | (go_at_call 9; (with_reducible refine (before_arm a cap q j (l.take j) _ false HT.out.1 HT.out.2.1 HT.out.2.2 _ (take_cells (fun i hi => HZ.out _ g4 i hi) j) (take_small HU.out j) (by omega) hq3).mono ?_); rintro e w5 ⟨rfl, rfl⟩))
                go_roundw
                case rel => exact ⟨j + 1, by omega, by omega, by go_num, q + 1, by first | go_num | (rw [if_pos (by omega)]; go_num), _, P4, HN.out.1, HN.out.2, gb_step HG.out g4 hpw⟩
                case measure => simp [intOf]; omega
              · have HD := Lib.hid (fun w h => drop_arm p s (1 + (q : Int)) 0 (by rw [hcomm]; exact (drop_E0 hU hq3 hqk htold)) w h)
                have HT := Lib.hid (And.intro hlen (And.intro hcomm htold))
                have HN : Hid (UpS (l.take (j + 1)) k (dropF s (1 + (q : Int))) ∧ Least (L) k (dropF s (1 + (q : Int)))) := Lib.hid (by rw [hcomm, take_one hjl, HE.out]; exact ⟨drop_up hU hfit hq3 HQ.out, least_ge hL hfit hq3 (by omega)⟩)
                have HP := Lib.hid hP
                have HG := Lib.hid hg
                have HZ := Lib.hid (fun (w4 : World) (g4 : wr.grownBy w4 (some p)) i hi => (gb_step hg g4 hpw).cell (HC.out i hi) (by simp))
                clear hP hU hL hg hfit hcomm hlen htold
                go_wp2_with (first
                  | (go_at_call 8; (with_reducible refine (HD.out _ HP.out).mono ?_); rintro e w4 ⟨rfl, P4, g4⟩)
                  | (go_at_call 9; (with_reducible refine (before_arm a cap q j (l.take j) _ false HT.out.1 HT.out.2.1 HT.out.2.2 _ (take_cells (fun i hi => HZ.out _ g4 i hi) j) (take_small HU.out j) (by omega) hq3).mono ?_); rintro e w5 ⟨rfl, rfl⟩))
                go_roundw
                case rel => exact ⟨j + 1, by omega, by omega, by go_num, L, by first | rfl | rw [if_neg (by omega)], _, P4, HN.out.1, HN.out.2, gb_step HG.out g4 hpw⟩
                case measure => simp [intOf]; omega
            · have hless := True.intro
              have HD := Lib.hid (fun w h => drop_arm p s (1 + (q : Int)) 13 (by rw [hcomm]; exact (drop_E13 hU hq3 (fun x => hqk x.1))) w h)
              have HN : Hid (UpS (l.take (j + 1)) k (dropF s (1 + (q : Int))) ∧ Least (L) k (dropF s (1 + (q : Int)))) := Lib.hid (by rw [hcomm, take_one hjl, HE.out]; exact ⟨drop_up hU hfit hq3 HQ.out, least_off hU hL hq3 hqk⟩)
              have HP := Lib.hid hP
              have HG := Lib.hid hg
              have HZ := Lib.hid (fun (w4 : World) (g4 : wr.grownBy w4 (some p)) i hi => (gb_step hg g4 hpw).cell (HC.out i hi) (by simp))
              clear hP hU hL hg hfit hcomm hlen htold
              go_wp2_with ((go_at_call 8; (with_reducible refine (HD.out _ HP.out).mono ?_); rintro e w4 ⟨rfl, P4, g4⟩))
              go_roundw
              case rel => exact ⟨j + 1, by omega, by omega, by go_num, L, by first | rfl | rw [if_neg (by omega)], _, P4, HN.out.1, HN.out.2, gb_step HG.out g4 hpw⟩
              case measure => simp [intOf]; omega
          · by_cases hqk : q < k
            · by_cases hless : q + 1 < L
              · have HD := Lib.hid (fun w h => drop_arm p s (1 + (q : Int)) 13 (by rw [hcomm]; exact (drop_E13 hU hq3 (fun x => by rw [htold] at x; cases x.2))) w h)
                have HT := Lib.hid (And.intro hlen (And.intro hcomm htold))
                have HN : Hid (UpS (l.take (j + 1)) k (dropF s (1 + (q : Int))) ∧ Least (q + 1) k (dropF s (1 + (q : Int)))) := Lib.hid (by rw [hcomm, take_one hjl, HE.out]; exact ⟨drop_up hU hfit hq3 HQ.out, least_lt hL hfit hq3 hqk hless⟩)
                have HP := Lib.hid hP
                have HG := Lib.hid hg
                have HZ := Lib.hid (fun (w4 : World) (g4 : wr.grownBy w4 (some p)) i hi => (gb_step hg g4 hpw).cell (HC.out i hi) (by simp))
                clear hP hU hL hg hfit hcomm hlen htold
                go_wp2_with (first
                  | (go_at_call 8; (with_reducible refine (HD.out _ HP.out).mono ?_); rintro e w4 ⟨rfl, P4, g4⟩)
                  | (go_at_call 9; (with_reducible refine (before_arm a cap q j (l.take j) _ true HT.out.1 HT.out.2.1 HT.out.2.2 _ (take_cells (fun i hi => HZ.out _ g4 i hi) j) (take_small HU.out j) (by omega) hq3).mono ?_); rintro e w5 ⟨rfl, rfl⟩))
                go_roundw
                case rel => exact ⟨j + 1, by omega, by omega, by go_num, q + 1, by first | go_num | (rw [if_pos (by omega)]; go_num), _, P4, HN.out.1, HN.out.2, gb_step HG.out g4 hpw⟩
                case measure => simp [intOf]; omega
              · have HD := Lib.hid (fun w h => drop_arm p s (1 + (q : Int)) 13 (by rw [hcomm]; exact (drop_E13 hU hq3 (fun x => by rw [htold] at x; cases x.2))) w h)
                have HT := Lib.hid (And.intro hlen (And.intro hcomm htold))
                have HN : Hid (UpS (l.take (j + 1)) k (dropF s (1 + (q : Int))) ∧ Least (L) k (dropF s (1 + (q : Int)))) := Lib.hid (by rw [hcomm, take_one hjl, HE.out]; exact ⟨drop_up hU hfit hq3 HQ.out, least_ge hL hfit hq3 (by omega)⟩)
                have HP := Lib.hid hP
                have HG := Lib.hid hg
                have HZ := Lib.hid (fun (w4 : World) (g4 : wr.grownBy w4 (some p)) i hi => (gb_step hg g4 hpw).cell (HC.out i hi) (by simp))
                clear hP hU hL hg hfit hcomm hlen htold
                go_wp2_with (first
                  | (go_at_call 8; (with_reducible refine (HD.out _ HP.out).mono ?_); rintro e w4 ⟨rfl, P4, g4⟩)
                  | (go_at_call 9; (with_reducible refine (before_arm a cap q j (l.take j) _ true HT.out.1 HT.out.2.1 HT.out.2.2 _ (take_cells (fun i hi => HZ.out _ g4 i hi) j) (take_small HU.out j) (by omega) hq3).mono ?_); rintro e w5 ⟨rfl, rfl⟩))
                go_roundw
                case rel => exact ⟨j + 1, by omega, by omega, by go_num, L, by first | rfl | rw [if_neg (by omega)], _, P4, HN.out.1, HN.out.2, gb_step HG.out g4 hpw⟩
                case measure => simp [intOf]; omega
            · have hless := True.intro
              have HD := Lib.hid (fun w h => drop_arm p s (1 + (q : Int)) 13 (by rw [hcomm]; exact (drop_E13 hU hq3 (fun x => hqk x.1))) w h)
              have HN : Hid (UpS (l.take (j + 1)) k (dropF s (1 + (q : Int))) ∧ Least (L) k (dropF s (1 + (q : Int)))) := Lib.hid (by rw [hcomm, take_one hjl, HE.out]; exact ⟨drop_up hU hfit hq3 HQ.out, least_off hU hL hq3 hqk⟩)
              have HP := Lib.hid hP
              have HG := Lib.hid hg
              have HZ := Lib.hid (fun (w4 : World) (g4 : wr.grownBy w4 (some p)) i hi => (gb_step hg g4 hpw).cell (HC.out i hi) (by simp))
              clear hP hU hL hg hfit hcomm hlen htold
              go_wp2_with ((go_at_call 8; (with_reducible refine (HD.out _ HP.out).mono ?_); rintro e w4 ⟨rfl, P4, g4⟩))
              go_roundw
              case rel => exact ⟨j + 1, by omega, by omega, by go_num, L, by first | rfl | rw [if_neg (by omega)], _, P4, HN.out.1, HN.out.2, gb_step HG.out g4 hpw⟩
              case measure => simp [intOf]; omega
        · have hend : ¬ ((j : Int) < (N : Int) ∧ (j : Int) < 50) := by omega
          have hlow := least_low hL hfit hm1
          have hj3 : N ≤ j ∨ (j < N ∧ 50 ≤ j) := by omega
          clear hj50 hend
          rcases hj3 with hj3 | hj3
          all_goals
            by_cases hbig : 960 < L
            · rw [if_pos hbig] at hlow
              have HL := Lib.hid (lowest_k p s 0 15 (by rw [hlow.1]; rfl) (by rw [hlow.2]; rfl) _ hP)
              have HG := Lib.hid hg
              clear hP hU hL hg hfit hlow
              go_wp2_with (go_at_call 6; (with_reducible refine HL.out.mono ?_); rintro e w3 ⟨rfl, g3⟩)
              go_ret
              exact ⟨rfl, gb_trans HG.out g3⟩
            · rw [if_neg hbig] at hlow
              have HL := Lib.hid (lowest_k p s (L : Nat) 0 (by rw [hlow.1]) (by rw [hlow.2]; rfl) _ hP)
              have HG := Lib.hid hg
              have hLL : ((L : Int) == (L : Int)) = true := by simp
              clear hP hU hL hg hfit hlow
              go_wp2_with (go_at_call 6; (with_reducible refine HL.out.mono ?_); rintro e w3 ⟨rfl, g3⟩)
              go_ret
              exact ⟨ret_bool (by simp), gb_trans HG.out g3⟩
theorem lowest_walk (n : Nat) (v : Value) (l : List Nat) (w : World) (hn : n < 65536) (hv : Us w v l) (hu : ∀ j, l.getD j 0 < 65536) (hl : l.length ≤ 9223372036854775807) :
    Calls Try.prog 3 #[.int .u16 (n : Nat), v] w fun e w' => e = .returned (.bool true) ∧ w.grownBy w' none := by
  obtain ⟨ao, cap, rfl, hcap, hnil, hcell⟩ := us_shape hv
  cases ao with
  | none =>
    rw [hnil rfl]
    exact lowest_none n cap w hn
  | some a => exact lowest_some n a cap l w hn hcap (hcell a rfl) hu hl
end Go.Proofs.Ytfkkdhgggocgjaa

