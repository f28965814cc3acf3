/-
  What the document's answers Bytes and Text lay, over this seat's translation: the digits of a number, a text behind its length; conditions: a width of at most 8, a text of at most half a million bytes.
-/
import Derived.Test.YthhimhjegodklaaGreatPut
import Derived.IntWalk
namespace Go.Proofs.YthhimhjegodklaaGreat
open Go.RowKit

theorem bs_one (w : World) (z : Int) (c : UInt8) (h : z = c.toNat) : Bs (w.alloc (.cells #[.int .u8 z] 5)) (.slice (some ⟨w.heap.size, 0, none⟩) 1 1) [c] := by
  subst h
  refine ⟨some ⟨w.heap.size, 0, none⟩, 1, rfl, Nat.le_refl _, (fun e => by cases e), ?_⟩
  intro a e j u hj
  cases e
  exact cell_new w (.int .u8 (c.toNat : Int)) 5 j u (by simpa [bcells] using hj)
theorem str_append (a b : List UInt8) : (⟨a.toArray⟩ : ByteArray) ++ (⟨b.toArray⟩ : ByteArray) = ⟨(a ++ b).toArray⟩ := by
  apply ByteArray.ext; simp

set_option maxRecDepth 100000 in
set_option maxHeartbeats 1000000 in
theorem ref_bytes (k : Nat) : ∀ (n : Nat) (w : World), k ≤ 8 → n < 18446744073709551616 →
    Calls Tryz.prog 41 #[.int .u64 n, .int .i64 k] w fun e w' => e = .returned (.string ⟨(digits n k).toArray⟩) ∧ w.grownBy w' none := by
  induction k with
  | zero =>
    intro n w _ _
    go_enter Tryz.func41, Tryz.ntmps41
    go_wp2_with fail
    go_ret
    exact ⟨rfl, gb_refl _ _⟩
  | succ k ih =>
    intro n w hk hn
    obtain ⟨c, hc⟩ : ∃ c : UInt8, c = UInt8.ofNat (n % 256) := ⟨_, rfl⟩
    obtain ⟨m, hm⟩ : ∃ m : Nat, m = n / 256 := ⟨_, rfl⟩
    have e1 : IntKind.u64.wrap ((n : Int) / 256) = (m : Int) := by
      rw [hm]; simp only [IntKind.wrap, IntKind.bits, IntKind.signed]; simp; omega
    have e2 : IntKind.i64.wrap (k : Int) = (k : Int) := IntWalk.i64_in _ (by omega)
    have e3 : IntKind.u8.wrap ((n : Int).tmod 256) = (c.toNat : Int) := by
      rw [hc, Int.tmod_eq_emod_of_nonneg (by omega)]; simp only [IntKind.wrap, IntKind.bits, IntKind.signed]; simp
    have hm1 : m < 18446744073709551616 := by omega
    have HD := Lib.hid (show digits n (k + 1) = digits m k ++ [c] by rw [hm, hc]; rfl)
    clear hc hm
    have IH := Lib.hid ih
    clear ih
    have hcv := fun W => conv_bs _ _ _ (bs_one W (c.toNat : Int) c rfl)
    have hcv2 := fun W => conv_bs _ _ _ ((bs_one W (c.toNat : Int) c rfl).keep0 (gb_drew _ none))
    have hlen : (digits m k).length ≤ 8 := by rw [digits_length]; omega
    have hk0 : ((((k + 1 : Nat) : Int)) == 0) = false := by simp; omega
    go_enter Tryz.func41, Tryz.ntmps41
    go_wp2_with fail
    go_region_with (go_at_call 41; go_must (refine (IH.out m _ (by omega) hm1).mono ?_; rintro e w2 ⟨rfl, g2⟩; (first | (have c2 := conv_bs _ _ _ (((bs_one w (c.toNat : Int) c rfl).keep0 (gb_drew _ none)).keep0 g2); replace g2 := gb_trans (gb_trans (gb_alloc w _ none) (gb_drew _ none)) g2) | (replace g2 := gb_trans (gb_drew w none) g2))))
    all_goals
      go_wp2
      go_ret
      refine ⟨?_, ?_⟩
      · rw [HD.out]; exact congrArg (fun s => Ending.returned (.string s)) (str_append _ _)
      · first | exact g2 | exact gb_trans g2 (gb_alloc _ _ _)

theorem ref_text_ok (s : ByteArray) (w : World) (hs : s.size ≤ 255) :
    Calls Tryz.prog 42 #[.string s] w fun e w' => e = .returned (.string (⟨(digits s.size 1 ++ s.data.toList).toArray⟩)) ∧ w.grownBy w' none := by
  have hs' : ¬ (255 < (s.size : Int)) := by omega
  obtain ⟨c, hc⟩ : ∃ c : UInt8, c = UInt8.ofNat (s.size % 256) := ⟨_, rfl⟩
  have hz : (s.size : Int) = (c.toNat : Int) := by rw [hc]; simp; omega
  have hcv := fun W => conv_bs _ _ _ (bs_one W (s.size : Int) c hz)
  have HD := Lib.hid (show digits s.size 1 = [c] by rw [hc]; rfl)
  clear hc hz
  go_enter Tryz.func42, Tryz.ntmps42
  go_wp2
  go_ret
  refine ⟨?_, gb_alloc _ _ _⟩
  rw [HD.out]
  exact congrArg (fun s => Ending.returned (.string s)) (str_append [c] s.data.toList)
theorem ref_text_long (s : ByteArray) (w : World) (hs : 255 < s.size) :
    Calls Tryz.prog 42 #[.string s] w fun e w' => e = .returned (.string ⟨#[]⟩) ∧ w.grownBy w' none := by
  have hs' : 255 < (s.size : Int) := by omega
  go_enter Tryz.func42, Tryz.ntmps42
  go_wp2
  go_ret
  exact ⟨rfl, gb_refl _ _⟩
end Go.Proofs.YthhimhjegodklaaGreat

