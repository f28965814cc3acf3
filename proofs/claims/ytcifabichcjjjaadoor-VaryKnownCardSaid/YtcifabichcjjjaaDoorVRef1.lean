/-
  What the document's answers may and Number are, over this seat's translation; conditions: the numbers fit.
-/
import Derived.Test.YtcifabichcjjjaaDoorVRow
import Derived.Test.YtcifabichcjjjaaDoorVMath
namespace Go.Proofs.YtcifabichcjjjaaDoor
open Go.RowKit

set_option maxHeartbeats 400000 in
theorem ref_may (tag : Int) (text : Bool) (n : Nat) (s : ByteArray) (w : World) :
    Calls Tryd.prog 25 #[.agg #[.int .i64 tag, .bool text, .int .u64 n, .string s]] w fun e w' => e = .returned (.bool (mayB ⟨tag, text, n, s⟩)) ∧ w.grownBy w' none := by
  by_cases h1 : tag < 1
  · rw [mayB_lo tag text n s h1]
    go_enter Tryd.func25, Tryd.ntmps25
    go_wp2
    go_ret
    exact ⟨rfl, gb_alloc _ _ _⟩
  · by_cases h2 : 63 < tag
    · rw [mayB_hi tag text n s h2]
      go_enter Tryd.func25, Tryd.ntmps25
      go_wp2
      go_ret
      exact ⟨rfl, gb_alloc _ _ _⟩
    · have HM := Lib.hid (mayB_mid tag text n s h1 h2)
      cases text
      · go_enter Tryd.func25, Tryd.ntmps25
        go_wp2
        go_ret
        refine ⟨?_, gb_alloc _ _ _⟩
        rw [HM.out]
        exact congrArg (fun b => Ending.returned (Value.bool b)) (empty_iff s)
      · go_enter Tryd.func25, Tryd.ntmps25
        go_wp2
        go_ret
        refine ⟨?_, gb_alloc _ _ _⟩
        rw [HM.out]
        exact congrArg (fun b => Ending.returned (Value.bool b)) (zero_iff n)

theorem bs_one (w : World) (z : Int) (c : UInt8) (h : z = c.toNat) : Bs (w.alloc (.cells #[.int .u8 z] 5)) (.slice (some ⟨w.heap.size, 0, none⟩) 1 1) [c] := by
  subst h
  refine ⟨some ⟨w.heap.size, 0, none⟩, 1, rfl, Nat.le_refl _, (fun e => by cases e), ?_⟩
  intro a e j u hj
  cases e
  exact cell_new w (.int .u8 (c.toNat : Int)) 5 j u (by simpa [bcells] using hj)
theorem str_append (a b : List UInt8) : (⟨a.toArray⟩ : ByteArray) ++ (⟨b.toArray⟩ : ByteArray) = ⟨(a ++ b).toArray⟩ := by
  apply ByteArray.ext; simp


theorem digits_front (k : Nat) : ∀ n, digits n (k + 1) = UInt8.ofNat (n / 256 ^ k % 256) :: digits n k := by
  induction k with
  | zero => intro n; simp [digits]
  | succ k ih =>
    intro n
    have h1 := ih (n / 256)
    rw [digits, h1, Nat.div_div_eq_div_mul, Nat.pow_succ, Nat.mul_comm (256 ^ k) 256, List.cons_append]
    rfl
/-- What holds at each round's head. -/
def NumRel (n : Nat) (w : World) (v0 v3 : Value) (wr : World) : Prop :=
  ∃ (k : Nat), k ≤ 8 ∧ v0 = .int .u64 ((n / 256 ^ k : Nat) : Int) ∧ v3 = .string ⟨(digits n k).toArray⟩ ∧ (k = 0 ∨ 256 ^ (k - 1) ≤ n) ∧ w.grownBy wr none

set_option maxRecDepth 100000 in
set_option maxHeartbeats 1000000 in
theorem ref_number (n : Nat) (w : World) (hn : n < 18446744073709551616) :
    Calls Tryd.prog 26 #[.int .u64 n] w fun e w' => e = .returned (.string ⟨(numB n).toArray⟩) ∧ w.grownBy w' none := by
  have HNN := Lib.hid hn
  clear hn
  go_enter Tryd.func26, Tryd.ntmps26
  go_wp2
  go_loopw [0, 3] (fun v0 v3 wr => NumRel n w v0 v3 wr) (fun v0 _ _ => (intOf v0).toNat)
  case atStart => exact ⟨0, by omega, by simp, rfl, Or.inl rfl, gb_refl _ _⟩
  case round =>
    obtain ⟨k, hk, rfl, rfl, hge, hg⟩ := hrel
    obtain ⟨x, hx⟩ : ∃ x, x = n / 256 ^ k := ⟨_, rfl⟩
    obtain ⟨d, hdd⟩ : ∃ d, d = digits n k := ⟨_, rfl⟩
    have hdl : d.length ≤ 8 := by rw [hdd, digits_length]; exact hk
    have hdk : d.length = k := by rw [hdd, digits_length]
    have hxs : x < 18446744073709551616 := by rw [hx]; exact Nat.lt_of_le_of_lt (Nat.div_le_self _ _) HNN.out
    rw [← hx, ← hdd]
    by_cases h0 : x = 0
    · subst h0
      have hlt : n < 256 ^ k := by
        rcases Nat.lt_or_ge n (256 ^ k) with h | h
        · exact h
        · have := (Nat.one_le_div_iff (Nat.pow_pos (n := k) (show 0 < 256 by omega))).2 h; omega
      have hsz := szN_eq n k HNN.out hlt hge
      obtain ⟨c, hc⟩ : ∃ c : UInt8, c = UInt8.ofNat k := ⟨_, rfl⟩
      have hz : (d.length : Int) = (c.toNat : Int) := by rw [hc, hdk]; simp; omega
      have HE := Lib.hid (show numB n = [c] ++ d by rw [numB, hsz, hc, hdd]; rfl)
      have hcv := fun W => conv_bs _ _ _ (bs_one W (d.length : Int) c hz)
      clear hx hdd hdk hsz hlt hc hz hge hxs
      go_wp2
      go_ret
      refine ⟨?_, gb_trans hg (gb_alloc _ _ _)⟩
      rw [HE.out]
      exact congrArg (fun s => Ending.returned (.string s)) (str_append _ _)
    · have hpos : (0 : Int) < (x : Int) := by omega
      have hk8 : k + 1 ≤ 8 := by
        rcases Nat.lt_or_ge k 8 with h | h
        · omega
        · exfalso
          have h1 : (256 : Nat) ^ 8 ≤ 256 ^ k := Nat.pow_le_pow_right (by omega) h
          have h2 : (256 : Nat) ^ 8 = 18446744073709551616 := by decide
          have h3 := HNN.out
          exact h0 (by rw [hx]; exact Nat.div_eq_of_lt (by omega))
      obtain ⟨c, hc⟩ : ∃ c : UInt8, c = UInt8.ofNat (x % 256) := ⟨_, rfl⟩
      have hz : IntKind.u8.wrap ((x : Int) % 256) = (c.toNat : Int) := by rw [hc]; simp only [IntKind.wrap, IntKind.bits, IntKind.signed]; simp
      have hz' : ((x : Int) % 256) = (c.toNat : Int) := by rw [hc]; simp
      have hRel : ∀ wr', w.grownBy wr' none → NumRel n w (.int .u64 ((x : Int) / 256)) (.string (⟨[c].toArray⟩ ++ ⟨d.toArray⟩)) wr' := by
        intro wr' hg'
        refine ⟨k + 1, hk8, ?_, ?_, Or.inr ?_, hg'⟩
        · rw [Nat.pow_succ, ← Nat.div_div_eq_div_mul, ← hx]; simp
        · rw [str_append, digits_front, ← hx, ← hc, ← hdd]; rfl
        · rw [Nat.add_sub_cancel]
          exact (Nat.one_le_div_iff (Nat.pow_pos (show 0 < 256 by omega))).1 (by rw [← hx]; omega)
      have HR := Lib.hid hRel
      have hcv := fun W => conv_bs _ _ _ (bs_one W (c.toNat : Int) c rfl)
      clear hx hdd hdk hc hRel hge
      go_wp2
      go_roundw
      case rel => exact HR.out _ (gb_trans hg (gb_alloc _ _ _))
      case measure => simp [intOf]; omega
end Go.Proofs.YtcifabichcjjjaaDoor
