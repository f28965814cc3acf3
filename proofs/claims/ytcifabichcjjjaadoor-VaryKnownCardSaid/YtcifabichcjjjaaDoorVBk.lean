/-
  What VaryBack answers, over this seat's translation: true; conditions: the variable errors.errorType holds its type's handle, the slice reads as fields whose numbers fit.
-/
import Derived.Test.YtcifabichcjjjaaDoorVSame
import Derived.Test.YtcifabichcjjjaaDoorVMath
namespace Go.Proofs.YtcifabichcjjjaaDoor
open Go.RowKit

/-- Fields were read. -/
def ReadOk (w : World) (l : List Fd) (e : Ending) (w' : World) : Prop := ∃ v, e = .returned (.tuple #[v, .nilIface]) ∧ Fs w' v l ∧ w.grownBy w' none
theorem read_ok (s : ByteArray) (l : List Fd) (w : World) (hs : s.size ≤ 1000000) (h : readS s.data.toList = .ok l) : Calls Tryd.prog 15 #[.string s] w (ReadOk w l) := by
  refine (read_any s w hs).mono ?_
  rintro e w' ⟨h1, h2⟩
  rw [h] at h2
  obtain ⟨v, rfl, hF⟩ := h2
  exact ⟨v, rfl, hF, h1⟩
theorem read_bad (s : ByteArray) (c p : Nat) (w : World) (hs : s.size ≤ 1000000) (h : readS s.data.toList = .error (c, p)) : Calls Tryd.prog 15 #[.string s] w (WkBad w c p) := by
  refine (read_any s w hs).mono ?_
  rintro e w' ⟨h1, h2⟩
  rw [h] at h2
  obtain ⟨a, rfl, hF⟩ := h2
  exact ⟨a, rfl, hF, h1⟩
theorem put_as (v : Value) (l : List Fd) (B : ByteArray) (c : Nat) (w : World) (hv : Fs w v l) (hok : ∀ f ∈ l, f.ok) (hl : l.length ≤ 1000000) (hB : B = ⟨(putS l).1.toArray⟩) (hc : (putS l).2 = c) :
    Calls Tryd.prog 9 #[v] w fun e w' => e = .returned (.tuple #[.string B, .int .i64 c]) ∧ w.grownBy w' none := by
  subst hB; subst hc
  exact put_any v l w hv hok hl
theorem bytes_list (s : ByteArray) (l : List UInt8) (h : s = ⟨l.toArray⟩) : s.data.toList = l := by subst h; simp

set_option maxRecDepth 100000 in
set_option maxHeartbeats 4000000 in
theorem back_walk (v : Value) (l : List Fd) (longer : Nat) (s : ByteArray) (w : World) (hd : Hd w) (hv : Fs w v l) (hok : ∀ f ∈ l, f.ok) (hl : l.length ≤ 9223372036854775807) (hlong : longer < 256) (hs : s.size ≤ 9223372036854775807) :
    Calls Tryd.prog 5 #[v, .int .u8 longer, .string s] w fun e w' => e = .returned (.bool true) ∧ w.grownBy w' none := by
  have HO := Lib.hid hok
  clear hok
  obtain ⟨t, ht⟩ : ∃ t : ByteArray, t = s.extract 0 (min (s.size : Int) 1000).toNat := ⟨_, rfl⟩
  have hts : t.size ≤ 1000 := by rw [ht]; simp; omega
  have HT := Lib.hid ht
  clear ht
  go_enter Tryd.func5, Tryd.ntmps5
  go_wp2_with fail
  ((with_reducible refine (works_any _ hd).mono ?_); rintro e w1 ⟨rfl, g1⟩)
  go_wp2_with fail
  ((with_reducible refine (few_any v l longer _ (hv.keep0 g1) HO.out hl hlong).mono ?_); rintro e w2 ⟨v2, m, rfl, f2, hm40, hmok, g2⟩)
  have HM := Lib.hid hmok
  replace g2 := gb_trans g1 g2
  clear hmok g1
  obtain ⟨B, hB⟩ : ∃ B : ByteArray, B = ⟨(putS m).1.toArray⟩ := ⟨_, rfl⟩
  obtain ⟨c, hc⟩ : ∃ c, (putS m).2 = c := ⟨_, rfl⟩
  have hnn : ∀ f ∈ m, f.n < 18446744073709551616 := fun f hf => (HM.out f hf).1.2.2.1
  have hBl := bytes_list B _ hB
  have hBs : B.size ≤ 64320 := by
    have h1 := putS_length m hnn
    rw [hB]; simpa [ByteArray.size] using h1
  have HB := Lib.hid hB
  have HBL := Lib.hid hBl
  have HC := Lib.hid hc
  have HNN := Lib.hid hnn
  clear hB hc hnn hBl
  go_wp2_with fail
  ((with_reducible refine (put_as v2 m B c _ f2 (fun f hf => (HM.out f hf).1) (by omega) HB.out HC.out).mono ?_); rintro e w3 ⟨rfl, g3⟩)
  have f3 := f2.keep0 g3
  replace g3 := gb_trans g2 g3
  clear g2 f2
  by_cases h0 : c = 0
  · have h0' : ((c : Int) == 0) = true := by rw [h0]; rfl
    have hrd : readS B.data.toList = .ok m := by rw [HBL.out]; exact back1 m HNN.out (HC.out.trans h0)
    have HRD := Lib.hid hrd
    clear hrd h0
    go_wp2_with fail
    ((with_reducible refine (read_ok B m _ (by omega) HRD.out).mono ?_); rintro e w4 ⟨v4, rfl, f4, g4⟩)
    replace f3 := f3.keep0 g4
    replace g4 := gb_trans g3 g4
    clear g3
    go_wp2_with fail
    ((with_reducible refine (alike_same v2 v4 m _ f3 f4 (by omega)).mono ?_); rintro e w5 ⟨rfl, g5⟩)
    replace g5 := gb_trans g4 g5
    clear g4 f3 f4
    go_wp2_with fail
    rw [← HT.out]
    cases hr : readS t.data.toList with
    | error q =>
      obtain ⟨cd, pl⟩ := q
      have HR := Lib.hid hr
      clear hr
      ((with_reducible refine (read_bad t cd pl _ (by omega) HR.out).mono ?_); rintro e w6 ⟨a6, rfl, f6, g6⟩)
      go_wp2
      go_ret
      exact ⟨rfl, gb_trans g5 g6⟩
    | ok m2 =>
      obtain ⟨hp, hp32, hpok⟩ := back2 _ _ hr
      have HR := Lib.hid hr
      have HP := Lib.hid hp
      have HPO := Lib.hid hpok
      clear hr hp hpok
      ((with_reducible refine (read_ok t m2 _ (by omega) HR.out).mono ?_); rintro e w6 ⟨v6, rfl, f6, g6⟩)
      replace g6 := gb_trans g5 g6
      clear g5
      go_wp2_with fail
      ((with_reducible refine (put_as v6 m2 t 0 _ f6 (fun f hf => (HPO.out f hf).1) (by omega) (by rw [HP.out]) (by rw [HP.out])).mono ?_); rintro e w7 ⟨rfl, g7⟩)
      replace g7 := gb_trans g6 g7
      go_wp2
      go_ret
      exact ⟨rfl, g7⟩
  · have h0' : ((c : Int) == 0) = false := by rw [beq_eq_false_iff_ne]; omega
    have hBe : B.toList.isEmpty = true := by
      rw [empty_iff, beq_iff_eq]
      have h1 := putS_bad m (by rw [HC.out]; exact h0)
      have h2 := HBL.out
      rw [h1] at h2
      have : B.data.size = 0 := by rw [← Array.length_toList, h2]; rfl
      exact this
    have g5 := g3
    clear g3 f3
    go_wp2_with fail
    rw [← HT.out]
    cases hr : readS t.data.toList with
    | error q =>
      obtain ⟨cd, pl⟩ := q
      have HR := Lib.hid hr
      clear hr
      ((with_reducible refine (read_bad t cd pl _ (by omega) HR.out).mono ?_); rintro e w6 ⟨a6, rfl, f6, g6⟩)
      go_wp2
      go_ret
      exact ⟨rfl, gb_trans g5 g6⟩
    | ok m2 =>
      obtain ⟨hp, hp32, hpok⟩ := back2 _ _ hr
      have HR := Lib.hid hr
      have HP := Lib.hid hp
      have HPO := Lib.hid hpok
      clear hr hp hpok
      ((with_reducible refine (read_ok t m2 _ (by omega) HR.out).mono ?_); rintro e w6 ⟨v6, rfl, f6, g6⟩)
      replace g6 := gb_trans g5 g6
      clear g5
      go_wp2_with fail
      ((with_reducible refine (put_as v6 m2 t 0 _ f6 (fun f hf => (HPO.out f hf).1) (by omega) (by rw [HP.out]) (by rw [HP.out])).mono ?_); rintro e w7 ⟨rfl, g7⟩)
      replace g7 := gb_trans g6 g7
      go_wp2
      go_ret
      exact ⟨rfl, g7⟩
end Go.Proofs.YtcifabichcjjjaaDoor
