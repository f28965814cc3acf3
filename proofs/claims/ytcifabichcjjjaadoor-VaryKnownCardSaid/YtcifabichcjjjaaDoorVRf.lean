/-
  What vary.refusedHead and vary.readField answer, over this seat's translation; conditions: the variable 'left' is a block of its own that holds a slice of bytes, at most a million of them; the slice of fields reads as a list, at most a million of them.
-/
import Derived.Test.YtcifabichcjjjaaDoorVNum
namespace Go.Proofs.YtcifabichcjjjaaDoor
open Go.RowKit

set_option maxHeartbeats 400000 in
theorem refusedHead_any (tag : Int) (v : Value) (l : List Fd) (w : World) (hv : Fs w v l) (hl : l.length ≤ 1000000) :
    Calls Tryd.prog 40 #[.int .i64 tag, v] w fun e w' => e = .returned (.int .i64 (headR tag l)) ∧ w = w' := by
  have hv' := hv
  obtain ⟨ao, cap, rfl, hcap, _, _⟩ := hv
  have HV := Lib.hid hv'
  clear hv'
  have HR := Lib.hid (show headR tag l = if l.length = 32 then 4 else if tag < 1 ∨ 63 < tag then 2 else if tag ≤ lastT l then 7 else 0 from rfl)
  by_cases h1 : l.length = 32
  · have h1' : ((l.length : Int) == 32) = true := by simp; omega
    have e := HR.out
    rw [if_pos h1] at e
    rw [e]; clear e HR h1
    go_enter Tryd.func40, Tryd.ntmps40
    go_wp2
    go_ret
    exact ⟨rfl, rfl⟩
  · have h1' : ((l.length : Int) == 32) = false := by simp; omega
    have e := HR.out
    rw [if_neg h1] at e
    clear HR h1
    by_cases h2 : tag < 1
    · rw [if_pos (Or.inl h2)] at e
      rw [e]; clear e
      go_enter Tryd.func40, Tryd.ntmps40
      go_wp2
      go_ret
      exact ⟨rfl, rfl⟩
    · by_cases h3 : 63 < tag
      · rw [if_pos (Or.inr h3)] at e
        rw [e]; clear e
        go_enter Tryd.func40, Tryd.ntmps40
        go_wp2
        go_ret
        exact ⟨rfl, rfl⟩
      · rw [if_neg (by omega)] at e
        by_cases h4 : tag ≤ lastT l
        · rw [if_pos h4] at e
          rw [e]; clear e
          go_enter Tryd.func40, Tryd.ntmps40
          go_wp2_with (go_at_call 23; refine (lastTag_any _ l _ HV.out (by omega)).mono ?_; rintro e w1 ⟨rfl, rfl⟩)
          go_ret
          exact ⟨rfl, rfl⟩
        · rw [if_neg h4] at e
          rw [e]; clear e
          go_enter Tryd.func40, Tryd.ntmps40
          go_wp2_with (go_at_call 23; refine (lastTag_any _ l _ HV.out (by omega)).mono ?_; rintro e w1 ⟨rfl, rfl⟩)
          go_ret
          exact ⟨rfl, rfl⟩

theorem numR_cons (k : UInt8) (r : List UInt8) : numR (k :: r) = if 8 < k.toNat then .error 5 else if r.length < k.toNat then .error 3 else if (r.take k.toNat).head? = some 0 then .error 5 else .ok (nat8 (r.take k.toNat), r.drop k.toNat) := rfl

theorem readNumber_err (b c : Nat) (l : List UInt8) (w : World) (h : Lf w b l) (hl : l.length ≤ 1000000) (e : numR l = .error c) :
    Calls Tryd.prog 41 #[.func (.func 27) #[] #[.pointer (some ⟨b, 0, none⟩)]] w (NumErr w b c) := by
  cases l with
  | nil => injection e with e; subst e; exact readNumber_nil b w h
  | cons k r =>
    simp at hl
    rw [numR_cons] at e
    by_cases h1 : 8 < k.toNat
    · rw [if_pos h1] at e; injection e with e; subst e; exact readNumber_form b k r w h h1 (by omega)
    · rw [if_neg h1] at e
      by_cases h2 : r.length < k.toNat
      · rw [if_pos h2] at e; injection e with e; subst e; exact readNumber_short b k r w h (by omega) (by omega) h2
      · rw [if_neg h2] at e
        by_cases h3 : (r.take k.toNat).head? = some 0
        · rw [if_pos h3] at e; injection e with e; subst e
          cases r with
          | nil => simp at h3
          | cons x t =>
            obtain ⟨m, hm⟩ : ∃ m, k.toNat = m + 1 := by
              cases hk : k.toNat with
              | zero => rw [hk] at h3; simp at h3
              | succ m => exact ⟨m, rfl⟩
            rw [hm, List.take_succ_cons] at h3
            have hx : x = 0 := by simpa using h3
            subst hx
            simp at h2 hl
            exact readNumber_nought b k t w h (by omega) (by omega) (by omega) (by omega)
        · rw [if_neg h3] at e; cases e
theorem readNumber_got (b n : Nat) (l r' : List UInt8) (w : World) (h : Lf w b l) (hl : l.length ≤ 1000000) (e : numR l = .ok (n, r')) :
    Calls Tryd.prog 41 #[.func (.func 27) #[] #[.pointer (some ⟨b, 0, none⟩)]] w (NumGot w b n r') := by
  cases l with
  | nil => cases e
  | cons k r =>
    simp at hl
    rw [numR_cons] at e
    by_cases h1 : 8 < k.toNat
    · rw [if_pos h1] at e; cases e
    · rw [if_neg h1] at e
      by_cases h2 : r.length < k.toNat
      · rw [if_pos h2] at e; cases e
      · rw [if_neg h2] at e
        by_cases h3 : (r.take k.toNat).head? = some 0
        · rw [if_pos h3] at e; cases e
        · rw [if_neg h3] at e
          injection e with e; injection e with e1 e2; subst e1; subst e2
          exact readNumber_ok b k r w h (by omega) (by omega) (by omega) h3
/-- The call answers an error's number, and takes of the bytes that are left alone. -/
def TextErr (w : World) (b c : Nat) (e : Ending) (w' : World) : Prop := e = .returned (.tuple #[.string ⟨#[]⟩, .int .i64 c]) ∧ w.grownBy w' (some b)
theorem readText_err (b c n : Nat) (l : List UInt8) (w : World) (h : Lf w b l) (hn : n < 18446744073709551616) (e : textR n l = .error c) :
    Calls Tryd.prog 42 #[.func (.func 27) #[] #[.pointer (some ⟨b, 0, none⟩)], .int .u64 n] w (TextErr w b c) := by
  unfold textR at e
  by_cases h1 : 2000 < n
  · rw [if_pos h1] at e; injection e with e; subst e
    exact (readText_long b n w h1 hn).mono fun _ _ ⟨a, b⟩ => ⟨a, b ▸ gb_refl _ _⟩
  · rw [if_neg h1] at e
    by_cases h2 : l.length < n
    · rw [if_pos h2] at e; injection e with e; subst e
      exact (readText_short b n l w h (by omega) h2).mono fun _ _ ⟨a, b⟩ => ⟨a, b ▸ gb_refl _ _⟩
    · rw [if_neg h2] at e; cases e
/-- A text was read. -/
def TextGot2 (w : World) (b : Nat) (t r : List UInt8) (e : Ending) (w' : World) : Prop :=
  e = .returned (.tuple #[.string ⟨t.toArray⟩, .int .i64 0]) ∧ Lf w' b r ∧ w.grownBy w' (some b)
theorem readText_got (b n : Nat) (l t r : List UInt8) (w : World) (h : Lf w b l) (hl : l.length ≤ 1000000) (e : textR n l = .ok (t, r)) :
    Calls Tryd.prog 42 #[.func (.func 27) #[] #[.pointer (some ⟨b, 0, none⟩)], .int .u64 n] w (TextGot2 w b t r) := by
  unfold textR at e
  by_cases h1 : 2000 < n
  · rw [if_pos h1] at e; cases e
  · rw [if_neg h1] at e
    by_cases h2 : l.length < n
    · rw [if_pos h2] at e; cases e
    · rw [if_neg h2] at e
      injection e with e; injection e with e1 e2; subst e1; subst e2
      exact readText_ok b n l w h (by omega) (by omega) hl
end Go.Proofs.YtcifabichcjjjaaDoor
