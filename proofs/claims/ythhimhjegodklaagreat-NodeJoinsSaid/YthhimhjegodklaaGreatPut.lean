/-
  What PText lays and what the statements' own 'put' lays, and a slice's text, over this seat's translation; conditions: the slice reads as bytes, at most half a million of them, the text has at most half a million.
-/
import Derived.Test.YthhimhjegodklaaGreatLay
namespace Go.Proofs.YthhimhjegodklaaGreat
open Go.RowKit

theorem digits_mod (k : Nat) : ∀ n, digits (n % 256 ^ k) k = digits n k := by
  induction k with
  | zero => intro n; rfl
  | succ k ih =>
    intro n
    have h1 : n % 256 ^ (k + 1) / 256 = n / 256 % 256 ^ k := by
      rw [Nat.pow_succ, Nat.mul_comm, Nat.mod_mul_right_div_self]
    have h2 : n % 256 ^ (k + 1) % 256 = n % 256 := by
      rw [Nat.pow_succ, Nat.mul_comm]; exact Nat.mod_mul_right_mod n 256 _
    simp only [digits, h1, h2, ih]
theorem conv_bs (w : World) (v : Value) (l : List UInt8) (h : Bs w v l) : (convert 28 9 v).run Tryz.prog w = .ok (.string ⟨l.toArray⟩) w := by
  obtain ⟨ao, cap, rfl, _, hnil, hcell⟩ := h
  cases ao with
  | none =>
    have := (hnil rfl).1
    have hl : l = [] := List.eq_nil_of_length_eq_zero this
    subst hl
    exact run_convert_bytes_nil w 28 5 Tryz.underlying28 Tryz.underlying5 _ _ 9 Tryz.underlying9
  | some a =>
    exact run_convert_bytes_back w 28 9 5 a cap l Tryz.underlying28 Tryz.underlying5 Tryz.underlying9 fun j hj => hcell a rfl j _ (by simp [bcells, hj])

theorem gb_own {W w w' : World} {e : TypeId} {size : Nat} {v : Value} {n : Nat} {xs : List Value} (hg : W.grownBy w none) (ho : w.ownsRow W.heap.size e size v n xs) (h2 : w.grownBy w' v.ownBlock) : W.grownBy w' none := by
  refine ⟨h2.os.trans hg.os, h2.tape.trans hg.tape, h2.output.trans hg.output, Nat.le_trans hg.size h2.size, ?_⟩
  intro k hk _
  rw [← hg.block k hk (by simp)]
  refine h2.block k (Nat.lt_of_lt_of_le hk hg.size) ?_
  intro e
  have := (ho.lt k e.symm).1
  omega

theorem ptext_ok (v : Value) (l : List UInt8) (s : ByteArray) (w : World) (hv : Bs w v l) (hs : s.size ≤ 255) (hl : l.length ≤ 500000) :
    Calls Tryz.prog 102 #[v, .string s] w (Laid w (l ++ (digits s.size 1 ++ s.data.toList))) := by
  have hs' : ¬ (255 < (s.size : Int)) := by omega
  go_enter Tryz.func102, Tryz.ntmps102
  obtain ⟨i0, hi, hz0, hz1, hz2⟩ := info_parts Tryz.info8
  go_wp2_with (first | (go_at_call 100; refine (p8_any v l s.size _ hv (by omega) (by omega)).mono ?_; rintro e w1 ⟨v1, rfl, o1, g1⟩) | (at_builtin; go_must (refine Lib.wpList_append_own_string _ rfl _ _ 28 9 rfl w.heap.size 5 i0 Tryz.underlying28 Tryz.underlying9 hi hz0 hz1 hz2 _ _ _ rfl o1 s rfl (by unfold maxLen; simp [digits_length]; omega) (by simp [digits_length]; omega) g1.size ?_; intro v2 w2 o2 g2 _)))
  go_ret
  exact ⟨v2, rfl, owns_cast o2 (by simp [digits_length]; omega) (by simp [bcells, Lib.strCells]), gb_own g1 o1 g2⟩
theorem ptext_long (v : Value) (l : List UInt8) (s : ByteArray) (w : World) (hv : Bs w v l) (hs : 255 < s.size) (hl : l.length ≤ 500000) :
    Calls Tryz.prog 102 #[v, .string s] w (Laid w l) := by
  have hs' : 255 < (s.size : Int) := by omega
  obtain ⟨ao, cap, rfl, hcap, hnil, hcell⟩ := hv
  have HC := Lib.hid hcell
  have HN := Lib.hid hnil
  clear hcell hnil
  cases ao with
  | none =>
    have h0 : l = [] := List.eq_nil_of_length_eq_zero (HN.out rfl).1
    subst h0
    clear HN HC
    go_enter Tryz.func102, Tryz.ntmps102
    go_wp2_with (go_at_call 111; refine (Tryz.bytes_Clone_nil _ _ _).mono ?_; rintro e w' ⟨rfl, rfl⟩)
    go_ret
    exact ⟨_, rfl, World.ownsRow_nil _ _ _ _, gb_refl _ _⟩
  | some a =>
    go_enter Tryz.func102, Tryz.ntmps102
    go_wp2_with (go_at_call 111; refine (Tryz.bytes_Clone_at a l.length cap (l.map fun c => (c.toNat : Int)) _ (by simp) (by omega) (fun i hi => HC.out a rfl i _ (by simp [bcells, hi]))).mono ?_; rintro e w' ⟨v1, rfl, o1, _, b1⟩)
    go_ret
    exact ⟨_, rfl, owns_cast o1 rfl (by simp only [bcells, List.map_map]; rfl), gb_of_below b1⟩

end Go.Proofs.YthhimhjegodklaaGreat

