/-
  What VaryOn answers, over this seat's translation: true; conditions: the variable errors.errorType holds its type's handle, the slice reads as fields whose numbers fit.
-/
import Derived.Test.YtcifabichcjjjaaDoorVBk
import Derived.Test.YtcifabichcjjjaaDoorVOnM
namespace Go.Proofs.YtcifabichcjjjaaDoor
open Go.RowKit

set_option maxHeartbeats 400000 in
theorem prefix_lite (b s : ByteArray) (w : World) (h : s.size ≤ b.size) (he : b.extract 0 s.size = s) :
    Calls Tryd.prog 32 #[.string b, .string s] w fun e w' => e = .returned (.bool true) ∧ w = w' := by
  go_enter Tryd.func32, Tryd.ntmps32
  go_wp2
  go_ret
  exact ⟨rfl, rfl⟩
theorem prefix_any (b s : ByteArray) (w : World) (h : s.size ≤ b.size) (he : b.extract 0 s.size = s) :
    Calls Tryd.prog 20 #[.string b, .string s] w fun e w' => e = .returned (.bool true) ∧ w = w' := by
  have HE := Lib.hid he
  clear he
  go_enter Tryd.func20, Tryd.ntmps20
  go_wp2_with (go_at_call 32; refine (prefix_lite b s _ h HE.out).mono ?_; rintro e w1 ⟨rfl, rfl⟩)
  go_ret
  exact ⟨rfl, rfl⟩
theorem Fs.drop {w : World} {a : Addr} {cap : Nat} {l : List Fd} (k : Nat) (hk : k ≤ l.length) (hcap : l.length ≤ cap) (hcell : ∀ j u, (fcells l)[j]? = some u → w.cell? (a.add j) = some u) (x : Addr) (hx : x = if cap = k then a else a.add (k * 4)) : Fs w (.slice (some x) (l.length - k) (cap - k)) (l.drop k) := by
  refine ⟨some x, cap - k, by simp, by simp; omega, (fun e => by cases e), fun b e j u hj => ?_⟩
  cases e
  have hj2 := (List.getElem?_eq_some_iff.1 hj).1
  rw [fcells_length, List.length_drop] at hj2
  rw [if_neg (by omega)] at hx
  subst hx
  rw [addr_add]
  refine hcell _ u ?_
  have h1 : fcells l = fcells (l.take k) ++ fcells (l.drop k) := by rw [← fcells_append, List.take_append_drop]
  have h2 : (fcells (l.take k)).length = k * 4 := by rw [fcells_length]; simp; omega
  rw [h1, List.getElem?_append_right (by omega), h2, Nat.add_sub_cancel_left]
  exact hj
theorem put_nil (w : World) : Calls Tryd.prog 9 #[.slice none 0 0] w fun e w' => e = .returned (.tuple #[.string ⟨#[]⟩, .int .i64 0]) ∧ w.grownBy w' none :=
  put_as (.slice none 0 0) [] ⟨#[]⟩ 0 w (Fs.nil w) (by simp) (by simp) rfl rfl
theorem read_nil (w : World) : Calls Tryd.prog 15 #[.string ByteArray.empty] w (ReadOk w []) := read_ok ByteArray.empty [] w (by decide) rfl
theorem few_zero (v : Value) (l : List Fd) (w : World) (hv : Fs w v l) (hok : ∀ f ∈ l, f.ok) (hl : l.length ≤ 9223372036854775807) :
    Calls Tryd.prog 8 #[v, .int .u8 0] w (FewGot w) := few_any v l 0 w hv hok hl (by decide)
/-- What holds at each round's head. -/
def OnRel (w : World) (m : List Fd) (N : Nat) (v8 v9 v10 : Value) (wr : World) : Prop :=
  ∃ k wh : Nat, k ≤ m.length + 1 ∧ v10 = .int .i64 k ∧ wh ≤ m.length ∧ v8 = .int .i64 wh ∧ v9 = .int .i64 (lenF m wh) ∧ lenF m wh ≤ N ∧ (∀ j, wh < j → j < k → N < lenF m j) ∧ w.grownBy wr none
theorem told_short (a p : Nat) (w : World) (hd : Hd w) (hf : Ft w a 3 p) :
    Calls Tryd.prog 17 #[.iface 69 (.pointer (some ⟨a, 0, none⟩)), .agg #[.int .i64 3, .int .i64 p]] w fun e w' => e = .returned (.bool true) ∧ w.grownBy w' none :=
  told_fault a 3 p w hd hf rfl
theorem prefix_app (S R : ByteArray) : (S ++ R).extract 0 S.size = S := by
  apply ByteArray.ext
  rw [ByteArray.data_extract, ByteArray.data_append]
  show (S.data ++ R.data).extract 0 S.data.size = S.data
  simp
theorem bytes_app (a b : List UInt8) : (⟨a.toArray⟩ : ByteArray) ++ (⟨b.toArray⟩ : ByteArray) = ⟨(a ++ b).toArray⟩ := by
  apply ByteArray.ext; simp
theorem cut_list (B : ByteArray) (n : Nat) : (B.extract 0 n).data.toList = B.data.toList.take n := by simp

set_option maxRecDepth 100000 in
set_option maxHeartbeats 4000000 in
theorem on_walk (v : Value) (l : List Fd) (ct : Nat) (w : World) (hd : Hd w) (hv : Fs w v l) (hok : ∀ f ∈ l, f.ok) (hl : l.length ≤ 9223372036854775807) (hct : ct < 65536) :
    Calls Tryd.prog 6 #[v, .int .u16 ct] w fun e w' => e = .returned (.bool true) ∧ w.grownBy w' none := by
  have HO := Lib.hid hok
  clear hok
  go_enter Tryd.func6, Tryd.ntmps6
  go_wp2_with fail
  ((with_reducible refine (works_any _ hd).mono ?_); rintro e w1 ⟨rfl, g1⟩)
  go_wp2_with fail
  ((with_reducible refine (few_zero v l _ (hv.keep0 g1) HO.out hl).mono ?_); rintro e w2 ⟨v2, m, rfl, f2, hm40, hmok, g2⟩)
  have HM := Lib.hid hmok
  replace g2 := gb_trans g1 g2
  clear hmok g1
  obtain ⟨B, hB⟩ : ∃ B : ByteArray, B = ⟨(putS m).1.toArray⟩ := ⟨_, rfl⟩
  obtain ⟨c, hc⟩ : ∃ c, (putS m).2 = c := ⟨_, rfl⟩
  have hnn : ∀ f ∈ m, f.n < 18446744073709551616 := fun f hf => (HM.out f hf).1.2.2.1
  have hBl := bytes_list B _ hB
  have hBs : B.size ≤ 64320 := by
    have h1 := putS_length m hnn
    rw [hB]; simpa [ByteArray.size] using h1
  have HB := Lib.hid hB
  have HBL := Lib.hid hBl
  have HC := Lib.hid hc
  have HNN := Lib.hid hnn
  clear hB hc hnn hBl
  go_wp2_with fail
  ((with_reducible refine (put_as v2 m B c _ f2 (fun f hf => (HM.out f hf).1) (by omega) HB.out HC.out).mono ?_); rintro e w3 ⟨rfl, g3⟩)
  have f3 := f2.keep0 g3
  replace g3 := gb_trans g2 g3
  clear g2 f2
  by_cases h0 : c = 0
  · have h0' : ((c : Int) != 0) = false := by rw [h0]; rfl
    obtain ⟨hch, hm32, hpb⟩ := chain_of m HNN.out (HC.out.trans h0)
    have HCH := Lib.hid hch
    have hBL2 : B.data.toList = bytesF m := by rw [HBL.out, hpb]
    have HB2 := Lib.hid hBL2
    have hlast : lenF m m.length = B.size := by
      rw [lenF, List.take_length, ← hBL2]; simp
    have HLAST := Lib.hid hlast
    clear hch hpb hBL2 hlast h0
    obtain ⟨N, hN, hNB⟩ : ∃ N : Nat, ((ct : Int) % ((B.size : Int) + 1)) = (N : Int) ∧ N ≤ B.size := ⟨ct % (B.size + 1), by push_cast; rfl, by have := Nat.mod_lt ct (show 0 < B.size + 1 by omega); omega⟩
    obtain ⟨ao, cap, rfl, hcap, hnil, hcell⟩ := f3
    cases ao with
    | none =>
      obtain ⟨hm0, rfl⟩ := hnil rfl
      have hm1 : m = [] := List.eq_nil_of_length_eq_zero hm0
      subst hm1
      have hB0 : B = ⟨#[]⟩ := HB.out
      subst hB0
      obtain rfl : N = 0 := by have : (⟨#[]⟩ : ByteArray).size = 0 := rfl; omega
      have HN2 := Lib.hid hN
      clear hN hcell hnil
      go_wp2
      refine wp_loop_rounds 2 ?_
      rw [rounds_succ]
      go_wp2_with fail
      ((with_reducible refine (put_nil _).mono ?_); rintro e w4 ⟨rfl, g4⟩)
      go_wp2_with fail
      ((with_reducible refine (prefix_any ⟨#[]⟩ ⟨#[]⟩ _ (by decide) (by decide)).mono ?_); rintro e w5 ⟨rfl, rfl⟩)
      go_wp2_with fail
      ((with_reducible refine (put_nil _).mono ?_); rintro e w6 ⟨rfl, g6⟩)
      have hemp : (⟨#[]⟩ : ByteArray) ++ (⟨#[]⟩ : ByteArray) = ⟨#[]⟩ := rfl
      go_wp2_with fail
      clear hemp
      rw [rounds_succ]
      go_wp2_with fail
      ((with_reducible refine (read_nil _).mono ?_); rintro e w7 ⟨v7, rfl, f7, g7⟩)
      go_wp2_with fail
      ((with_reducible refine (alike_same v7 (.slice none 0 0) [] _ f7 (Fs.nil _) (by simp)).mono ?_); rintro e w8 ⟨rfl, g8⟩)
      go_wp2
      go_ret
      exact ⟨rfl, gb_trans g3 (gb_trans g4 (gb_trans g6 (gb_trans g7 g8)))⟩
    | some a =>
    have HCELL := Lib.hid hcell
    have HNIL := Lib.hid hnil
    clear hcell hnil
    have HN2 := Lib.hid hN
    clear hN
    go_wp2
    rw [HN2.out]
    clear HN2
    go_loopw [8, 9, 10, 11, 12, 13, 14] (fun v8 v9 v10 _ _ _ _ wr => OnRel w3 m N v8 v9 v10 wr) (fun _ _ i _ _ _ _ _ => m.length + 1 - (intOf i).toNat)
    case atStart => exact ⟨0, 0, by omega, rfl, by omega, rfl, rfl, Nat.zero_le _, fun j _ h => by omega, gb_refl _ _⟩
    case round =>
      obtain ⟨k, wh, hk, rfl, hwh, rfl, rfl, hle, hall, hg⟩ := hrel
      have HALL := Lib.hid hall
      clear hall
      have hcellr : ∀ a', some a = some a' → ∀ j u, (fcells m)[j]? = some u → wr.cell? (a'.add j) = some u := fun a' e j u hj => hg.cell (HCELL.out a' e j u hj) (by simp)
      by_cases hlt : k ≤ m.length
      · obtain ⟨S, hS⟩ : ∃ S : ByteArray, S = ⟨(bytesF (m.take k)).toArray⟩ := ⟨_, rfl⟩
        obtain ⟨R, hR⟩ : ∃ R : ByteArray, R = ⟨(bytesF (m.drop k)).toArray⟩ := ⟨_, rfl⟩
        have hSz : S.size = lenF m k := by rw [hS, lenF]; simp [ByteArray.size]
        have hSR : S ++ R = B := by
          rw [hS, hR, bytes_app, ← bytes_split, ← HB2.out]
        have hsum : S.size + R.size = B.size := by rw [← hSR]; simp
        have hpre : B.extract 0 S.size = S := by rw [← hSR]; exact prefix_app S R
        have hPS : putS (m.take k) = (bytesF (m.take k), 0) := putS_of _ (chain_take m 0 k HCH.out) (by simp; omega)
        have hPR : putS (m.drop k) = (bytesF (m.drop k), 0) := by
          obtain ⟨b, hb⟩ := chain_drop m 0 k (Int.le_refl _) HCH.out
          exact putS_of _ (chain_low _ b 0 hb (Int.le_refl _)) (by simp; omega)
        have hFS := Fs.cut k hlt hcap HNIL.out hcellr
        have HSS := Lib.hid hS
        have HRR := Lib.hid hR
        have HSZ := Lib.hid hSz
        have HSR := Lib.hid hSR
        have HPRE := Lib.hid hpre
        have HPS := Lib.hid hPS
        have HPR := Lib.hid hPR
        have HCR := Lib.hid hcellr
        have hsum1 : S.size + R.size ≤ 9223372036854775807 := by omega
        have hSle : S.size ≤ B.size := by omega
        clear hS hR hSz hSR hsum hpre hPS hPR hcellr
        have hk0 : (0 : Int) ≤ (k : Int) := Int.natCast_nonneg _
        have hk1 : (k : Int) ≤ (cap : Int) := by omega
        have hk2 : (k : Int) ≤ (m.length : Int) := by omega
        go_wp2_with fail
        ((with_reducible refine (put_as _ (m.take k) S 0 _ hFS (fun f hf => (HM.out f (List.mem_of_mem_take hf)).1) (by simp; omega) (by rw [HPS.out]; exact HSS.out) (by rw [HPS.out])).mono ?_); rintro e w4 ⟨rfl, g4⟩)
        go_wp2_with fail
        ((with_reducible refine (prefix_any B S _ hSle HPRE.out).mono ?_); rintro e w5 ⟨rfl, rfl⟩)
        have hg4 := gb_trans hg g4
        by_cases hn : S.size ≤ N
        · have hnb : decide (S.size ≤ N) = true := by simpa using hn
          have hRel : ∀ w6, w4.grownBy w6 none → OnRel w3 m N (.int .i64 k) (.int .i64 S.size) (.int .i64 ((k + 1 : Nat) : Int)) w6 := fun w6 g6 => ⟨k + 1, k, by omega, rfl, hlt, rfl, by rw [HSZ.out], by rw [← HSZ.out]; exact hn, fun j h1 h2 => by omega, gb_trans hg4 g6⟩
          have HREL := Lib.hid hRel
          clear hRel
          by_cases hck : cap = k
          · subst hck
            go_wp2_with fail
            have hFR := (Fs.drop cap hlt hcap (HCR.out a rfl) a (by rw [if_pos rfl])).keep0 g4
            rw [Nat.sub_self, show m.length - cap = 0 by omega] at hFR
            ((with_reducible refine (put_as _ (m.drop cap) R 0 _ hFR (fun f hf => (HM.out f (List.mem_of_mem_drop hf)).1) (by simp; omega) (by rw [HPR.out]; exact HRR.out) (by rw [HPR.out])).mono ?_); rintro e w6 ⟨rfl, g6⟩)
            have hR6 := HREL.out w6 g6
            have hSR := HSR.out
            clear HREL hFR g6 g4 hg4 hFS hg hle hwh
            go_wp2
            go_roundw
            case rel => exact hR6
            case measure => simp [intOf]; omega
          · go_wp2_with fail
            have hFR := (Fs.drop k hlt hcap (HCR.out a rfl) (a.add (k * 4)) (by rw [if_neg hck])).keep0 g4
            ((with_reducible refine (put_as _ (m.drop k) R 0 _ hFR (fun f hf => (HM.out f (List.mem_of_mem_drop hf)).1) (by simp; omega) (by rw [HPR.out]; exact HRR.out) (by rw [HPR.out])).mono ?_); rintro e w6 ⟨rfl, g6⟩)
            have hR6 := HREL.out w6 g6
            have hSR := HSR.out
            clear HREL hFR g6 g4 hg4 hFS hg hle hwh
            go_wp2
            go_roundw
            case rel => exact hR6
            case measure => simp [intOf]; omega
        · have hnb : decide (S.size ≤ N) = false := by simpa using hn
          have hRel : ∀ w6, w4.grownBy w6 none → OnRel w3 m N (.int .i64 wh) (.int .i64 (lenF m wh)) (.int .i64 ((k + 1 : Nat) : Int)) w6 := fun w6 g6 => ⟨k + 1, wh, by omega, rfl, hwh, rfl, rfl, hle, fun j h1 h2 => by
            by_cases hjk : j = k
            · subst hjk; rw [← HSZ.out]; omega
            · exact HALL.out j h1 (by omega), gb_trans hg4 g6⟩
          have HREL := Lib.hid hRel
          clear hRel
          by_cases hck : cap = k
          · subst hck
            go_wp2_with fail
            have hFR := (Fs.drop cap hlt hcap (HCR.out a rfl) a (by rw [if_pos rfl])).keep0 g4
            rw [Nat.sub_self, show m.length - cap = 0 by omega] at hFR
            ((with_reducible refine (put_as _ (m.drop cap) R 0 _ hFR (fun f hf => (HM.out f (List.mem_of_mem_drop hf)).1) (by simp; omega) (by rw [HPR.out]; exact HRR.out) (by rw [HPR.out])).mono ?_); rintro e w6 ⟨rfl, g6⟩)
            have hR6 := HREL.out w6 g6
            have hSR := HSR.out
            clear HREL hFR g6 g4 hg4 hFS hg hle hwh
            go_wp2
            go_roundw
            case rel => exact hR6
            case measure => simp [intOf]; omega
          · go_wp2_with fail
            have hFR := (Fs.drop k hlt hcap (HCR.out a rfl) (a.add (k * 4)) (by rw [if_neg hck])).keep0 g4
            ((with_reducible refine (put_as _ (m.drop k) R 0 _ hFR (fun f hf => (HM.out f (List.mem_of_mem_drop hf)).1) (by simp; omega) (by rw [HPR.out]; exact HRR.out) (by rw [HPR.out])).mono ?_); rintro e w6 ⟨rfl, g6⟩)
            have hR6 := HREL.out w6 g6
            have hSR := HSR.out
            clear HREL hFR g6 g4 hg4 hFS hg hle hwh
            go_wp2
            go_roundw
            case rel => exact hR6
            case measure => simp [intOf]; omega
      · obtain rfl : k = m.length + 1 := by omega
        obtain ⟨P, hP⟩ : ∃ P : ByteArray, P = B.extract 0 N := ⟨_, rfl⟩
        have hPl : P.data.toList = (bytesF m).take N := by rw [hP, cut_list, HB2.out]
        have hPs : P.size ≤ 1000000 := by rw [hP]; simp; omega
        have HPP := Lib.hid hP
        have HPL := Lib.hid hPl
        have HCR := Lib.hid hcellr
        clear hP hPl hcellr
        have hN0 : (0 : Int) ≤ (N : Int) := Int.natCast_nonneg _
        have hN1 : (N : Int) ≤ (B.size : Int) := by omega
        by_cases he : lenF m wh = N
        · have heb : ((lenF m wh : Int) == (N : Int)) = true := by rw [beq_iff_eq, he]
          have hrd : readS P.data.toList = .ok (m.take wh) := by rw [HPL.out, ← he]; exact cut_whole m wh HCH.out hm32
          have HRD := Lib.hid hrd
          have hFw := Fs.cut wh hwh hcap HNIL.out HCR.out
          have hw0 : (0 : Int) ≤ (wh : Int) := Int.natCast_nonneg _
          have hw1 : (wh : Int) ≤ (cap : Int) := by omega
          obtain ⟨L, hL⟩ : ∃ L : Nat, L = lenF m wh := ⟨_, rfl⟩
          rw [← hL] at heb hle ⊢
          clear he hrd hL
          go_wp2_with fail
          rw [← HPP.out]
          ((with_reducible refine (read_ok P (m.take wh) _ hPs HRD.out).mono ?_); rintro e w6 ⟨v6, rfl, f6, g6⟩)
          have hFw6 := hFw.keep0 g6
          go_wp2_with fail
          ((with_reducible refine (alike_same v6 _ (m.take wh) _ f6 hFw6 (by simp; omega)).mono ?_); rintro e w7 ⟨rfl, g7⟩)
          go_wp2
          go_ret
          exact ⟨rfl, gb_trans g3 (gb_trans hg (gb_trans g6 g7))⟩
        · have heb : ((lenF m wh : Int) == (N : Int)) = false := by rw [beq_eq_false_iff_ne]; omega
          have hw2 : wh < m.length := by
            rcases Nat.lt_or_ge wh m.length with h | h
            · exact h
            · obtain rfl : wh = m.length := by omega
              have := HLAST.out; omega
          have hrd : readS P.data.toList = .error (3, lenF m wh) := by
            rw [HPL.out]
            exact cut_within m wh N HCH.out hm32 hw2 (by omega) (HALL.out (wh + 1) (by omega) (by omega))
          have HRD := Lib.hid hrd
          have hd3 := hd.keep0 (gb_trans g3 hg)
          obtain ⟨L, hL⟩ : ∃ L : Nat, L = lenF m wh := ⟨_, rfl⟩
          rw [← hL] at heb hle HRD ⊢
          clear he hrd hL
          go_wp2_with fail
          rw [← HPP.out]
          ((with_reducible refine (read_bad P 3 L _ hPs HRD.out).mono ?_); rintro e w6 ⟨a6, rfl, f6, g6⟩)
          have hd6 := hd3.keep0 g6
          go_wp2_with fail
          ((with_reducible refine (told_short a6 L _ hd6 f6).mono ?_); rintro e w7 ⟨rfl, g7⟩)
          go_wp2
          go_ret
          exact ⟨rfl, gb_trans g3 (gb_trans hg (gb_trans g6 g7))⟩
  · have h0' : ((c : Int) != 0) = true := by rw [bne_iff_ne]; omega
    go_wp2
    go_ret
    exact ⟨rfl, g3⟩
end Go.Proofs.YtcifabichcjjjaaDoor
