/-
  FixedLays' walk, over this seat's translation: whatever bytes, number and text: it returns true, and nothing that was there has turned; conditions: the variable errors.errorType holds its type's handle; the slice reads as bytes.
-/
import Derived.Test.YtcoedakbagbenaaDoorWorks
import Derived.Test.YtcoedakbagbenaaDoorRef
namespace Go.Proofs.YtcoedakbagbenaaDoor
open Go.RowKit

theorem bs_take (w : World) (ao : Option Addr) (cap m : Nat) (l : List UInt8) (hm : m ≤ l.length) (hcap : l.length ≤ cap) (hnil : ao = none → l.length = 0 ∧ cap = 0) (hcell : ∀ a, ao = some a → ∀ j u, (bcells l)[j]? = some u → w.cell? (a.add j) = some u) :
    Bs w (.slice ao m cap) (l.take m) := by
  have e : (l.take m).length = m := by rw [List.length_take]; omega
  refine ⟨ao, cap, by rw [e], by omega, fun h => ⟨by have := (hnil h).1; omega, (hnil h).2⟩, ?_⟩
  intro a h j u hj
  refine hcell a h j u ?_
  simp only [bcells, List.map_take] at hj ⊢
  rw [List.getElem?_take] at hj
  split at hj
  · exact hj
  · cases hj

set_option maxRecDepth 100000 in
set_option maxHeartbeats 8000000 in
theorem lays_walk (ao : Option Addr) (cap : Nat) (l : List UInt8) (n : Nat) (s : ByteArray) (w : World) (hd : Hd w) (hn : n < 18446744073709551616) (hs : s.size ≤ 9223372036854775807)
    (hcap : l.length ≤ cap) (hl : l.length ≤ 9223372036854775807) (hnil : ao = none → l.length = 0 ∧ cap = 0) (hcell : ∀ a, ao = some a → ∀ j u, (bcells l)[j]? = some u → w.cell? (a.add j) = some u) :
    Calls Tryd.prog 4 #[.slice ao l.length cap, .int .u64 n, .string s] w fun e w' => e = .returned (.bool true) ∧ w.grownBy w' none := by
  have hb := bs_take w ao cap (min (l.length : Int) 100).toNat l (by omega) hcap hnil hcell
  obtain ⟨b, hb1⟩ : ∃ b : List UInt8, b = l.take (min (l.length : Int) 100).toNat := ⟨_, rfl⟩
  have hb2 : b.length ≤ 100 := by rw [hb1, List.length_take]; omega
  rw [← hb1] at hb
  clear hb1 hnil hcell
  have cv := conv_bs _ _ _ hb
  go_enter Tryd.func4, Tryd.ntmps4
  go_wp2_with fail
  clear cv
  obtain ⟨v, hv⟩ : ∃ v : Value, v = .slice ao (min (l.length : Int) 100).toNat cap := ⟨_, rfl⟩
  obtain ⟨t, ht⟩ : ∃ t : ByteArray, t = s.extract 0 (min (s.size : Int) 300).toNat := ⟨_, rfl⟩
  have ht1 : t.size ≤ 300 := by rw [ht]; simp; omega
  rw [← hv] at hb
  rw [← hv, ← ht]
  clear hv ht
  go_loopw [8] (fun i wr => ∃ k : Nat, k ≤ 4 ∧ i = .int .i64 k ∧ w.grownBy wr none) (fun i _ => 4 - (intOf i).toNat)
  case atStart => exact ⟨0, by omega, rfl, gb_refl _ _⟩
  case round =>
    obtain ⟨k, hk, rfl, hg⟩ := hrel
    have hbr := (hb.keep0 hg).keep0 (gb_drew wr none)
    by_cases h4 : k = 4
    · subst h4
      have hdr := (hd.keep0 hg).keep0 (gb_drew wr none)
      by_cases h255 : t.size ≤ 255
      · have F4 := str_append b (digits t.size 1 ++ t.data.toList)
        have F3 := digits_length 1 t.size
        have hz : ((digits t.size 1 ++ t.data.toList).toArray : Array UInt8).size ≤ 256 := by simp [F3]; omega
        go_wp2_with fail
        go_region_with (first | (go_at_call 21; go_must (refine (ptext_ok v b t _ hbr h255 (by omega)).mono ?_; rintro e w1 ⟨v1, rfl, o1, g1⟩; have b1 := Bs.of_owns o1; have c1 := conv_bs _ _ _ b1)) | (go_at_call 22; go_must (refine (ref_text_ok t _ h255).mono ?_; rintro e w2 ⟨rfl, g2⟩; have c2 := conv_bs _ _ _ (b1.keep0 g2); have c3 := conv_bs _ _ _ ((hbr.keep0 g1).keep0 g2))) | (go_at_call 18; go_must (refine (works_any _ ((hdr.keep0 g1).keep0 g2)).mono ?_; rintro e w3 ⟨rfl, g3⟩)))
        all_goals
          go_wp2
          go_ret
          exact ⟨rfl, gb_trans hg (gb_trans (gb_drew _ _) (gb_trans g1 (gb_trans g2 g3)))⟩
      · have F4 := str_append b []
        go_wp2_with fail
        go_region_with (first | (go_at_call 21; go_must (refine (ptext_long v b t _ hbr (by omega) (by omega)).mono ?_; rintro e w1 ⟨v1, rfl, o1, g1⟩; have b1 := Bs.of_owns o1; have c1 := conv_bs _ _ _ b1)) | (go_at_call 22; go_must (refine (ref_text_long t _ (by omega)).mono ?_; rintro e w2 ⟨rfl, g2⟩; have c2 := conv_bs _ _ _ (b1.keep0 g2); have c3 := conv_bs _ _ _ ((hbr.keep0 g1).keep0 g2))) | (go_at_call 18; go_must (refine (works_any _ ((hdr.keep0 g1).keep0 g2)).mono ?_; rintro e w3 ⟨rfl, g3⟩)))
        all_goals
          go_wp2
          go_ret
          exact ⟨rfl, gb_trans hg (gb_trans (gb_drew _ _) (gb_trans g1 (gb_trans g2 g3)))⟩
    by_cases h0 : k = 0
    · subst h0
      have F3 := digits_length 1 n
      have F4 := str_append b (digits n 1)
      go_wp2_with fail
      go_region_with (first | (go_at_call 19; go_must (refine (put1 v b n _ hbr hn (by omega)).mono ?_; rintro e w1 ⟨v1, rfl, o1, g1⟩; have b1 := Bs.of_owns o1; have c1 := conv_bs _ _ _ b1)) | (go_at_call 20; go_must (refine (ref_bytes 1 n _ (by decide) hn).mono ?_; rintro e w2 ⟨rfl, g2⟩; have c2 := conv_bs _ _ _ (b1.keep0 g2))))
      all_goals
        go_wp2
        go_roundw
        case rel => exact ⟨0 + 1, by omega, rfl, gb_trans hg (gb_trans (gb_trans (gb_drew _ _) g1) g2)⟩
        case measure => simp [intOf]
    by_cases h1 : k = 1
    · subst h1
      have F3 := digits_length 2 n
      have F4 := str_append b (digits n 2)
      go_wp2_with fail
      go_region_with (first | (go_at_call 19; go_must (refine (put2 v b n _ hbr hn (by omega)).mono ?_; rintro e w1 ⟨v1, rfl, o1, g1⟩; have b1 := Bs.of_owns o1; have c1 := conv_bs _ _ _ b1)) | (go_at_call 20; go_must (refine (ref_bytes 2 n _ (by decide) hn).mono ?_; rintro e w2 ⟨rfl, g2⟩; have c2 := conv_bs _ _ _ (b1.keep0 g2))))
      all_goals
        go_wp2
        go_roundw
        case rel => exact ⟨1 + 1, by omega, rfl, gb_trans hg (gb_trans (gb_trans (gb_drew _ _) g1) g2)⟩
        case measure => simp [intOf]
    by_cases h2 : k = 2
    · subst h2
      have F3 := digits_length 4 n
      have F4 := str_append b (digits n 4)
      go_wp2_with fail
      go_region_with (first | (go_at_call 19; go_must (refine (put4 v b n _ hbr hn (by omega)).mono ?_; rintro e w1 ⟨v1, rfl, o1, g1⟩; have b1 := Bs.of_owns o1; have c1 := conv_bs _ _ _ b1)) | (go_at_call 20; go_must (refine (ref_bytes 4 n _ (by decide) hn).mono ?_; rintro e w2 ⟨rfl, g2⟩; have c2 := conv_bs _ _ _ (b1.keep0 g2))))
      all_goals
        go_wp2
        go_roundw
        case rel => exact ⟨2 + 1, by omega, rfl, gb_trans hg (gb_trans (gb_trans (gb_drew _ _) g1) g2)⟩
        case measure => simp [intOf]
    have h3 : k = 3 := by omega
    subst h3
    have F3 := digits_length 8 n
    have F4 := str_append b (digits n 8)
    go_wp2_with fail
    go_region_with (first | (go_at_call 19; go_must (refine (put8 v b n _ hbr hn (by omega)).mono ?_; rintro e w1 ⟨v1, rfl, o1, g1⟩; have b1 := Bs.of_owns o1; have c1 := conv_bs _ _ _ b1)) | (go_at_call 20; go_must (refine (ref_bytes 8 n _ (by decide) hn).mono ?_; rintro e w2 ⟨rfl, g2⟩; have c2 := conv_bs _ _ _ (b1.keep0 g2))))
    all_goals
      go_wp2
      go_roundw
      case rel => exact ⟨3 + 1, by omega, rfl, gb_trans hg (gb_trans (gb_trans (gb_drew _ _) g1) g2)⟩
      case measure => simp [intOf]
end Go.Proofs.YtcoedakbagbenaaDoor
