/-
  What vary.layNumber lays, over this seat's translation: behind the bytes of a row of the caller's own those of the number; condition: the row has at most a million bytes.
-/
import Derived.Test.YtcifabichcjjjaaDoorVRead
import Derived.Test.YtcifabichcjjjaaDoorVShelf
namespace Go.Proofs.YtcifabichcjjjaaDoor
open Go.RowKit

/-- From a row of the caller's own to the next one: nothing but its block was written, and the next one is there, or new. -/
def Grew (w : World) (v : Value) (w' : World) (v' : Value) : Prop := w.grownBy w' v.ownBlock ∧ (v'.ownBlock = v.ownBlock ∨ ∃ g, v'.ownBlock = some g ∧ w.heap.size ≤ g)
theorem Grew.refl (w : World) (v : Value) : Grew w v w v := ⟨gb_refl _ _, Or.inl rfl⟩
theorem Grew.trans {w1 w2 w3 : World} {v1 v2 v3 : Value} (h : Grew w1 v1 w2 v2) (k : Grew w2 v2 w3 v3) : Grew w1 v1 w3 v3 := by
  obtain ⟨h1, h2⟩ := h
  obtain ⟨k1, k2⟩ := k
  refine ⟨⟨k1.os.trans h1.os, k1.tape.trans h1.tape, k1.output.trans h1.output, Nat.le_trans h1.size k1.size, fun i hi hr => ?_⟩, ?_⟩
  · rw [← h1.block i hi hr]
    refine k1.block i (Nat.lt_of_lt_of_le hi h1.size) ?_
    rcases h2 with h2 | ⟨g, h2, h3⟩
    · rw [h2]; exact hr
    · rw [h2]; exact ne_some (by omega)
  · rcases k2 with k2 | ⟨g, k2, k3⟩
    · rw [k2]; exact h2
    · exact Or.inr ⟨g, k2, Nat.le_trans h1.size k3⟩
theorem Grew.pre {w0 w1 w2 : World} {v1 v2 : Value} (g : w0.grownBy w1 none) (k : Grew w1 v1 w2 v2) : Grew w0 v1 w2 v2 := by
  obtain ⟨k1, k2⟩ := k
  refine ⟨gb_trans (gb_weak g _) k1, ?_⟩
  rcases k2 with k2 | ⟨b, k2, k3⟩
  · exact Or.inl k2
  · exact Or.inr ⟨b, k2, Nat.le_trans g.size k3⟩
/-- A row of the caller's own that has become these bytes. -/
def Onto (w : World) (B : Nat) (v : Value) (l : List UInt8) (e : Ending) (w' : World) : Prop :=
  ∃ v', e = .returned v' ∧ w'.ownsRow B 5 1 v' l.length (bcells l) ∧ Grew w v w' v'
/-- One byte appended to a row of the caller's own. -/
theorem app_own {ops : Array Oper} {rest : List Oper} {o : Oper} {a : Act} {Q : Exit → Act → World → Prop} (B : Nat) (w : World) (z : Int) (s x : Operand) (v : Value) (n : Nat) (xs : List Value) (hgd : o.guard = none)
    (ho : o.op = .call { callee := .builtin .append, args := #[s, x], argTypes := #[59, 59] })
    (hs : a.eval s = v) (hx : a.eval x = .slice (some ⟨w.heap.size, 0, none⟩) 1 1)
    (hown : w.ownsRow B 5 1 v n xs) (hB : B ≤ w.heap.size) (hl : n ≤ 1000100)
    (h : ∀ v' w', w'.ownsRow B 5 1 v' (n + 1) (xs ++ [.int .u8 z]) → Grew w v w' v' → B ≤ w'.heap.size → wpList Tryd.prog ops Q rest (a.put o.dst v') w') :
    wpList Tryd.prog ops Q (o :: rest) a (w.alloc (.cells #[.int .u8 z] 5)) := by
  obtain ⟨i0, hi, hz0, hz1, hz2⟩ := info_parts Tryd.info8
  refine wpList_append_own_at _ hgd s x 59 ho B 5 i0 (.int .u8 0) 1 1 Tryd.underlying59 hi hz0 hz1 hz2 rfl (by decide) v n xs hs (hown.alloc _) ⟨w.heap.size, 0, none⟩ 1 1 [.int .u8 z] hx rfl (cell_new _ _ _) (fun u hu => by simp at hu; subst hu; rfl) (by unfold maxLen; omega) (by omega) (by simp; omega) ?_
  intro v' w' h1 h2 _ h3
  have h4 := h2.size
  refine h v' w' h1 (Grew.pre (gb_alloc w _ none) ⟨h2, ?_⟩) (by simp at h4; omega)
  rcases h3 with h3 | h3
  · exact Or.inl h3
  · exact Or.inr ⟨_, h3, Nat.le_refl _⟩
theorem len64_at (n b : Nat) (w : World) (hb : Lib.bitLen n = b) (hn : n < 18446744073709551616) :
    Calls Tryd.prog 53 #[.int .u64 n] w fun e w' => e = .returned (.int .i64 b) ∧ w = w' := by
  refine (Tryd.bits_Len64 n w (by omega) (by omega)).mono ?_
  rintro e w' ⟨rfl, rfl⟩
  exact ⟨by rw [Int.toNat_natCast, hb], rfl⟩

set_option maxRecDepth 100000 in
set_option maxHeartbeats 2000000 in
theorem layNum0 (B : Nat) (v : Value) (l : List UInt8) (n : Nat) (w : World) (hown : w.ownsRow B 5 1 v l.length (bcells l)) (hB : B ≤ w.heap.size) (hn : n < 18446744073709551616) (hl : l.length ≤ 1000000) (hk : szN n = 0) :
    Calls Tryd.prog 39 #[v, .int .u64 n] w (Onto w B v (l ++ numB n)) := by
  have HN := Lib.hid (show numB n = UInt8.ofNat 0 :: digits n 0 by rw [numB, hk])
  obtain ⟨b, hb⟩ : ∃ b, Lib.bitLen n = b := ⟨_, rfl⟩
  have hb2 := bitLen_le n
  rw [hb] at hb2
  have hq : ((b : Int) + 7) / 8 = 0 := by unfold szN at hk; rw [hb] at hk; omega
  have HB := Lib.hid hb
  clear hb hk
  go_enter Tryd.func39, Tryd.ntmps39
  go_wp2_with (first | (go_at_call 53; refine (len64_at n b _ HB.out hn).mono ?_; rintro e w' ⟨rfl, rfl⟩) | (at_builtin; go_must (refine app_own B w _ _ _ _ _ _ rfl rfl rfl rfl hown hB (by omega) ?_; intro v0 w0 o0 g0 s0)))
  refine wp_loop_rounds 1 ?_
  rw [rounds_succ]
  go_wp2
  go_ret
  refine ⟨v0, rfl, owns_cast o0 (by rw [HN.out]; simp [digits_length]) ?_, g0⟩
  rw [HN.out]
  simp [digits, bcells]

set_option maxRecDepth 100000 in
set_option maxHeartbeats 2000000 in
theorem layNum1 (B : Nat) (v : Value) (l : List UInt8) (n : Nat) (w : World) (hown : w.ownsRow B 5 1 v l.length (bcells l)) (hB : B ≤ w.heap.size) (hn : n < 18446744073709551616) (hl : l.length ≤ 1000000) (hk : szN n = 1) :
    Calls Tryd.prog 39 #[v, .int .u64 n] w (Onto w B v (l ++ numB n)) := by
  have HN := Lib.hid (show numB n = UInt8.ofNat 1 :: digits n 1 by rw [numB, hk])
  obtain ⟨b, hb⟩ : ∃ b, Lib.bitLen n = b := ⟨_, rfl⟩
  have hb2 := bitLen_le n
  rw [hb] at hb2
  have hq : ((b : Int) + 7) / 8 = 1 := by unfold szN at hk; rw [hb] at hk; omega
  have HB := Lib.hid hb
  clear hb hk
  go_enter Tryd.func39, Tryd.ntmps39
  go_wp2_with (first | (go_at_call 53; refine (len64_at n b _ HB.out hn).mono ?_; rintro e w' ⟨rfl, rfl⟩) | (at_builtin; go_must (refine app_own B w _ _ _ _ _ _ rfl rfl rfl rfl hown hB (by omega) ?_; intro v0 w0 o0 g0 s0)))
  refine wp_loop_rounds 2 ?_
  rw [rounds_succ]
  go_wp2_with (at_builtin; go_must (refine app_own B w0 _ _ _ _ _ _ rfl rfl rfl rfl o0 s0 (by omega) ?_; intro v1 w1 o1 g1 s1))
  rw [rounds_succ]
  go_wp2
  go_ret
  refine ⟨v1, rfl, owns_cast o1 (by rw [HN.out]; simp [digits_length]) ?_, (g0.trans g1)⟩
  rw [HN.out]
  simp [digits, bcells]

set_option maxRecDepth 100000 in
set_option maxHeartbeats 2000000 in
theorem layNum2 (B : Nat) (v : Value) (l : List UInt8) (n : Nat) (w : World) (hown : w.ownsRow B 5 1 v l.length (bcells l)) (hB : B ≤ w.heap.size) (hn : n < 18446744073709551616) (hl : l.length ≤ 1000000) (hk : szN n = 2) :
    Calls Tryd.prog 39 #[v, .int .u64 n] w (Onto w B v (l ++ numB n)) := by
  have HN := Lib.hid (show numB n = UInt8.ofNat 2 :: digits n 2 by rw [numB, hk])
  obtain ⟨b, hb⟩ : ∃ b, Lib.bitLen n = b := ⟨_, rfl⟩
  have hb2 := bitLen_le n
  rw [hb] at hb2
  have hq : ((b : Int) + 7) / 8 = 2 := by unfold szN at hk; rw [hb] at hk; omega
  have HB := Lib.hid hb
  clear hb hk
  go_enter Tryd.func39, Tryd.ntmps39
  go_wp2_with (first | (go_at_call 53; refine (len64_at n b _ HB.out hn).mono ?_; rintro e w' ⟨rfl, rfl⟩) | (at_builtin; go_must (refine app_own B w _ _ _ _ _ _ rfl rfl rfl rfl hown hB (by omega) ?_; intro v0 w0 o0 g0 s0)))
  refine wp_loop_rounds 3 ?_
  rw [rounds_succ]
  go_wp2_with (at_builtin; go_must (refine app_own B w0 _ _ _ _ _ _ rfl rfl rfl rfl o0 s0 (by omega) ?_; intro v1 w1 o1 g1 s1))
  rw [rounds_succ]
  go_wp2_with (at_builtin; go_must (refine app_own B w1 _ _ _ _ _ _ rfl rfl rfl rfl o1 s1 (by omega) ?_; intro v2 w2 o2 g2 s2))
  rw [rounds_succ]
  go_wp2
  go_ret
  refine ⟨v2, rfl, owns_cast o2 (by rw [HN.out]; simp [digits_length]) ?_, ((g0.trans g1).trans g2)⟩
  rw [HN.out]
  simp [digits, bcells]

set_option maxRecDepth 100000 in
set_option maxHeartbeats 2000000 in
theorem layNum3 (B : Nat) (v : Value) (l : List UInt8) (n : Nat) (w : World) (hown : w.ownsRow B 5 1 v l.length (bcells l)) (hB : B ≤ w.heap.size) (hn : n < 18446744073709551616) (hl : l.length ≤ 1000000) (hk : szN n = 3) :
    Calls Tryd.prog 39 #[v, .int .u64 n] w (Onto w B v (l ++ numB n)) := by
  have HN := Lib.hid (show numB n = UInt8.ofNat 3 :: digits n 3 by rw [numB, hk])
  obtain ⟨b, hb⟩ : ∃ b, Lib.bitLen n = b := ⟨_, rfl⟩
  have hb2 := bitLen_le n
  rw [hb] at hb2
  have hq : ((b : Int) + 7) / 8 = 3 := by unfold szN at hk; rw [hb] at hk; omega
  have HB := Lib.hid hb
  clear hb hk
  go_enter Tryd.func39, Tryd.ntmps39
  go_wp2_with (first | (go_at_call 53; refine (len64_at n b _ HB.out hn).mono ?_; rintro e w' ⟨rfl, rfl⟩) | (at_builtin; go_must (refine app_own B w _ _ _ _ _ _ rfl rfl rfl rfl hown hB (by omega) ?_; intro v0 w0 o0 g0 s0)))
  refine wp_loop_rounds 4 ?_
  rw [rounds_succ]
  go_wp2_with (at_builtin; go_must (refine app_own B w0 _ _ _ _ _ _ rfl rfl rfl rfl o0 s0 (by omega) ?_; intro v1 w1 o1 g1 s1))
  rw [rounds_succ]
  go_wp2_with (at_builtin; go_must (refine app_own B w1 _ _ _ _ _ _ rfl rfl rfl rfl o1 s1 (by omega) ?_; intro v2 w2 o2 g2 s2))
  rw [rounds_succ]
  go_wp2_with (at_builtin; go_must (refine app_own B w2 _ _ _ _ _ _ rfl rfl rfl rfl o2 s2 (by omega) ?_; intro v3 w3 o3 g3 s3))
  rw [rounds_succ]
  go_wp2
  go_ret
  refine ⟨v3, rfl, owns_cast o3 (by rw [HN.out]; simp [digits_length]) ?_, (((g0.trans g1).trans g2).trans g3)⟩
  rw [HN.out]
  simp [digits, bcells]
  omega

set_option maxRecDepth 100000 in
set_option maxHeartbeats 2000000 in
theorem layNum4 (B : Nat) (v : Value) (l : List UInt8) (n : Nat) (w : World) (hown : w.ownsRow B 5 1 v l.length (bcells l)) (hB : B ≤ w.heap.size) (hn : n < 18446744073709551616) (hl : l.length ≤ 1000000) (hk : szN n = 4) :
    Calls Tryd.prog 39 #[v, .int .u64 n] w (Onto w B v (l ++ numB n)) := by
  have HN := Lib.hid (show numB n = UInt8.ofNat 4 :: digits n 4 by rw [numB, hk])
  obtain ⟨b, hb⟩ : ∃ b, Lib.bitLen n = b := ⟨_, rfl⟩
  have hb2 := bitLen_le n
  rw [hb] at hb2
  have hq : ((b : Int) + 7) / 8 = 4 := by unfold szN at hk; rw [hb] at hk; omega
  have HB := Lib.hid hb
  clear hb hk
  go_enter Tryd.func39, Tryd.ntmps39
  go_wp2_with (first | (go_at_call 53; refine (len64_at n b _ HB.out hn).mono ?_; rintro e w' ⟨rfl, rfl⟩) | (at_builtin; go_must (refine app_own B w _ _ _ _ _ _ rfl rfl rfl rfl hown hB (by omega) ?_; intro v0 w0 o0 g0 s0)))
  refine wp_loop_rounds 5 ?_
  rw [rounds_succ]
  go_wp2_with (at_builtin; go_must (refine app_own B w0 _ _ _ _ _ _ rfl rfl rfl rfl o0 s0 (by omega) ?_; intro v1 w1 o1 g1 s1))
  rw [rounds_succ]
  go_wp2_with (at_builtin; go_must (refine app_own B w1 _ _ _ _ _ _ rfl rfl rfl rfl o1 s1 (by omega) ?_; intro v2 w2 o2 g2 s2))
  rw [rounds_succ]
  go_wp2_with (at_builtin; go_must (refine app_own B w2 _ _ _ _ _ _ rfl rfl rfl rfl o2 s2 (by omega) ?_; intro v3 w3 o3 g3 s3))
  rw [rounds_succ]
  go_wp2_with (at_builtin; go_must (refine app_own B w3 _ _ _ _ _ _ rfl rfl rfl rfl o3 s3 (by omega) ?_; intro v4 w4 o4 g4 s4))
  rw [rounds_succ]
  go_wp2
  go_ret
  refine ⟨v4, rfl, owns_cast o4 (by rw [HN.out]; simp [digits_length]) ?_, ((((g0.trans g1).trans g2).trans g3).trans g4)⟩
  rw [HN.out]
  simp [digits, bcells]
  omega

set_option maxRecDepth 100000 in
set_option maxHeartbeats 2000000 in
theorem layNum5 (B : Nat) (v : Value) (l : List UInt8) (n : Nat) (w : World) (hown : w.ownsRow B 5 1 v l.length (bcells l)) (hB : B ≤ w.heap.size) (hn : n < 18446744073709551616) (hl : l.length ≤ 1000000) (hk : szN n = 5) :
    Calls Tryd.prog 39 #[v, .int .u64 n] w (Onto w B v (l ++ numB n)) := by
  have HN := Lib.hid (show numB n = UInt8.ofNat 5 :: digits n 5 by rw [numB, hk])
  obtain ⟨b, hb⟩ : ∃ b, Lib.bitLen n = b := ⟨_, rfl⟩
  have hb2 := bitLen_le n
  rw [hb] at hb2
  have hq : ((b : Int) + 7) / 8 = 5 := by unfold szN at hk; rw [hb] at hk; omega
  have HB := Lib.hid hb
  clear hb hk
  go_enter Tryd.func39, Tryd.ntmps39
  go_wp2_with (first | (go_at_call 53; refine (len64_at n b _ HB.out hn).mono ?_; rintro e w' ⟨rfl, rfl⟩) | (at_builtin; go_must (refine app_own B w _ _ _ _ _ _ rfl rfl rfl rfl hown hB (by omega) ?_; intro v0 w0 o0 g0 s0)))
  refine wp_loop_rounds 6 ?_
  rw [rounds_succ]
  go_wp2_with (at_builtin; go_must (refine app_own B w0 _ _ _ _ _ _ rfl rfl rfl rfl o0 s0 (by omega) ?_; intro v1 w1 o1 g1 s1))
  rw [rounds_succ]
  go_wp2_with (at_builtin; go_must (refine app_own B w1 _ _ _ _ _ _ rfl rfl rfl rfl o1 s1 (by omega) ?_; intro v2 w2 o2 g2 s2))
  rw [rounds_succ]
  go_wp2_with (at_builtin; go_must (refine app_own B w2 _ _ _ _ _ _ rfl rfl rfl rfl o2 s2 (by omega) ?_; intro v3 w3 o3 g3 s3))
  rw [rounds_succ]
  go_wp2_with (at_builtin; go_must (refine app_own B w3 _ _ _ _ _ _ rfl rfl rfl rfl o3 s3 (by omega) ?_; intro v4 w4 o4 g4 s4))
  rw [rounds_succ]
  go_wp2_with (at_builtin; go_must (refine app_own B w4 _ _ _ _ _ _ rfl rfl rfl rfl o4 s4 (by omega) ?_; intro v5 w5 o5 g5 s5))
  rw [rounds_succ]
  go_wp2
  go_ret
  refine ⟨v5, rfl, owns_cast o5 (by rw [HN.out]; simp [digits_length]) ?_, (((((g0.trans g1).trans g2).trans g3).trans g4).trans g5)⟩
  rw [HN.out]
  simp [digits, bcells]
  omega

set_option maxRecDepth 100000 in
set_option maxHeartbeats 2000000 in
theorem layNum6 (B : Nat) (v : Value) (l : List UInt8) (n : Nat) (w : World) (hown : w.ownsRow B 5 1 v l.length (bcells l)) (hB : B ≤ w.heap.size) (hn : n < 18446744073709551616) (hl : l.length ≤ 1000000) (hk : szN n = 6) :
    Calls Tryd.prog 39 #[v, .int .u64 n] w (Onto w B v (l ++ numB n)) := by
  have HN := Lib.hid (show numB n = UInt8.ofNat 6 :: digits n 6 by rw [numB, hk])
  obtain ⟨b, hb⟩ : ∃ b, Lib.bitLen n = b := ⟨_, rfl⟩
  have hb2 := bitLen_le n
  rw [hb] at hb2
  have hq : ((b : Int) + 7) / 8 = 6 := by unfold szN at hk; rw [hb] at hk; omega
  have HB := Lib.hid hb
  clear hb hk
  go_enter Tryd.func39, Tryd.ntmps39
  go_wp2_with (first | (go_at_call 53; refine (len64_at n b _ HB.out hn).mono ?_; rintro e w' ⟨rfl, rfl⟩) | (at_builtin; go_must (refine app_own B w _ _ _ _ _ _ rfl rfl rfl rfl hown hB (by omega) ?_; intro v0 w0 o0 g0 s0)))
  refine wp_loop_rounds 7 ?_
  rw [rounds_succ]
  go_wp2_with (at_builtin; go_must (refine app_own B w0 _ _ _ _ _ _ rfl rfl rfl rfl o0 s0 (by omega) ?_; intro v1 w1 o1 g1 s1))
  rw [rounds_succ]
  go_wp2_with (at_builtin; go_must (refine app_own B w1 _ _ _ _ _ _ rfl rfl rfl rfl o1 s1 (by omega) ?_; intro v2 w2 o2 g2 s2))
  rw [rounds_succ]
  go_wp2_with (at_builtin; go_must (refine app_own B w2 _ _ _ _ _ _ rfl rfl rfl rfl o2 s2 (by omega) ?_; intro v3 w3 o3 g3 s3))
  rw [rounds_succ]
  go_wp2_with (at_builtin; go_must (refine app_own B w3 _ _ _ _ _ _ rfl rfl rfl rfl o3 s3 (by omega) ?_; intro v4 w4 o4 g4 s4))
  rw [rounds_succ]
  go_wp2_with (at_builtin; go_must (refine app_own B w4 _ _ _ _ _ _ rfl rfl rfl rfl o4 s4 (by omega) ?_; intro v5 w5 o5 g5 s5))
  rw [rounds_succ]
  go_wp2_with (at_builtin; go_must (refine app_own B w5 _ _ _ _ _ _ rfl rfl rfl rfl o5 s5 (by omega) ?_; intro v6 w6 o6 g6 s6))
  rw [rounds_succ]
  go_wp2
  go_ret
  refine ⟨v6, rfl, owns_cast o6 (by rw [HN.out]; simp [digits_length]) ?_, ((((((g0.trans g1).trans g2).trans g3).trans g4).trans g5).trans g6)⟩
  rw [HN.out]
  simp [digits, bcells]
  omega

set_option maxRecDepth 100000 in
set_option maxHeartbeats 2000000 in
theorem layNum7 (B : Nat) (v : Value) (l : List UInt8) (n : Nat) (w : World) (hown : w.ownsRow B 5 1 v l.length (bcells l)) (hB : B ≤ w.heap.size) (hn : n < 18446744073709551616) (hl : l.length ≤ 1000000) (hk : szN n = 7) :
    Calls Tryd.prog 39 #[v, .int .u64 n] w (Onto w B v (l ++ numB n)) := by
  have HN := Lib.hid (show numB n = UInt8.ofNat 7 :: digits n 7 by rw [numB, hk])
  obtain ⟨b, hb⟩ : ∃ b, Lib.bitLen n = b := ⟨_, rfl⟩
  have hb2 := bitLen_le n
  rw [hb] at hb2
  have hq : ((b : Int) + 7) / 8 = 7 := by unfold szN at hk; rw [hb] at hk; omega
  have HB := Lib.hid hb
  clear hb hk
  go_enter Tryd.func39, Tryd.ntmps39
  go_wp2_with (first | (go_at_call 53; refine (len64_at n b _ HB.out hn).mono ?_; rintro e w' ⟨rfl, rfl⟩) | (at_builtin; go_must (refine app_own B w _ _ _ _ _ _ rfl rfl rfl rfl hown hB (by omega) ?_; intro v0 w0 o0 g0 s0)))
  refine wp_loop_rounds 8 ?_
  rw [rounds_succ]
  go_wp2_with (at_builtin; go_must (refine app_own B w0 _ _ _ _ _ _ rfl rfl rfl rfl o0 s0 (by omega) ?_; intro v1 w1 o1 g1 s1))
  rw [rounds_succ]
  go_wp2_with (at_builtin; go_must (refine app_own B w1 _ _ _ _ _ _ rfl rfl rfl rfl o1 s1 (by omega) ?_; intro v2 w2 o2 g2 s2))
  rw [rounds_succ]
  go_wp2_with (at_builtin; go_must (refine app_own B w2 _ _ _ _ _ _ rfl rfl rfl rfl o2 s2 (by omega) ?_; intro v3 w3 o3 g3 s3))
  rw [rounds_succ]
  go_wp2_with (at_builtin; go_must (refine app_own B w3 _ _ _ _ _ _ rfl rfl rfl rfl o3 s3 (by omega) ?_; intro v4 w4 o4 g4 s4))
  rw [rounds_succ]
  go_wp2_with (at_builtin; go_must (refine app_own B w4 _ _ _ _ _ _ rfl rfl rfl rfl o4 s4 (by omega) ?_; intro v5 w5 o5 g5 s5))
  rw [rounds_succ]
  go_wp2_with (at_builtin; go_must (refine app_own B w5 _ _ _ _ _ _ rfl rfl rfl rfl o5 s5 (by omega) ?_; intro v6 w6 o6 g6 s6))
  rw [rounds_succ]
  go_wp2_with (at_builtin; go_must (refine app_own B w6 _ _ _ _ _ _ rfl rfl rfl rfl o6 s6 (by omega) ?_; intro v7 w7 o7 g7 s7))
  rw [rounds_succ]
  go_wp2
  go_ret
  refine ⟨v7, rfl, owns_cast o7 (by rw [HN.out]; simp [digits_length]) ?_, (((((((g0.trans g1).trans g2).trans g3).trans g4).trans g5).trans g6).trans g7)⟩
  rw [HN.out]
  simp [digits, bcells]
  omega

set_option maxRecDepth 100000 in
set_option maxHeartbeats 2000000 in
theorem layNum8 (B : Nat) (v : Value) (l : List UInt8) (n : Nat) (w : World) (hown : w.ownsRow B 5 1 v l.length (bcells l)) (hB : B ≤ w.heap.size) (hn : n < 18446744073709551616) (hl : l.length ≤ 1000000) (hk : szN n = 8) :
    Calls Tryd.prog 39 #[v, .int .u64 n] w (Onto w B v (l ++ numB n)) := by
  have HN := Lib.hid (show numB n = UInt8.ofNat 8 :: digits n 8 by rw [numB, hk])
  obtain ⟨b, hb⟩ : ∃ b, Lib.bitLen n = b := ⟨_, rfl⟩
  have hb2 := bitLen_le n
  rw [hb] at hb2
  have hq : ((b : Int) + 7) / 8 = 8 := by unfold szN at hk; rw [hb] at hk; omega
  have HB := Lib.hid hb
  clear hb hk
  go_enter Tryd.func39, Tryd.ntmps39
  go_wp2_with (first | (go_at_call 53; refine (len64_at n b _ HB.out hn).mono ?_; rintro e w' ⟨rfl, rfl⟩) | (at_builtin; go_must (refine app_own B w _ _ _ _ _ _ rfl rfl rfl rfl hown hB (by omega) ?_; intro v0 w0 o0 g0 s0)))
  refine wp_loop_rounds 9 ?_
  rw [rounds_succ]
  go_wp2_with (at_builtin; go_must (refine app_own B w0 _ _ _ _ _ _ rfl rfl rfl rfl o0 s0 (by omega) ?_; intro v1 w1 o1 g1 s1))
  rw [rounds_succ]
  go_wp2_with (at_builtin; go_must (refine app_own B w1 _ _ _ _ _ _ rfl rfl rfl rfl o1 s1 (by omega) ?_; intro v2 w2 o2 g2 s2))
  rw [rounds_succ]
  go_wp2_with (at_builtin; go_must (refine app_own B w2 _ _ _ _ _ _ rfl rfl rfl rfl o2 s2 (by omega) ?_; intro v3 w3 o3 g3 s3))
  rw [rounds_succ]
  go_wp2_with (at_builtin; go_must (refine app_own B w3 _ _ _ _ _ _ rfl rfl rfl rfl o3 s3 (by omega) ?_; intro v4 w4 o4 g4 s4))
  rw [rounds_succ]
  go_wp2_with (at_builtin; go_must (refine app_own B w4 _ _ _ _ _ _ rfl rfl rfl rfl o4 s4 (by omega) ?_; intro v5 w5 o5 g5 s5))
  rw [rounds_succ]
  go_wp2_with (at_builtin; go_must (refine app_own B w5 _ _ _ _ _ _ rfl rfl rfl rfl o5 s5 (by omega) ?_; intro v6 w6 o6 g6 s6))
  rw [rounds_succ]
  go_wp2_with (at_builtin; go_must (refine app_own B w6 _ _ _ _ _ _ rfl rfl rfl rfl o6 s6 (by omega) ?_; intro v7 w7 o7 g7 s7))
  rw [rounds_succ]
  go_wp2_with (at_builtin; go_must (refine app_own B w7 _ _ _ _ _ _ rfl rfl rfl rfl o7 s7 (by omega) ?_; intro v8 w8 o8 g8 s8))
  rw [rounds_succ]
  go_wp2
  go_ret
  refine ⟨v8, rfl, owns_cast o8 (by rw [HN.out]; simp [digits_length]) ?_, ((((((((g0.trans g1).trans g2).trans g3).trans g4).trans g5).trans g6).trans g7).trans g8)⟩
  rw [HN.out]
  simp [digits, bcells]
  omega

theorem layNumber_any (B : Nat) (v : Value) (l : List UInt8) (n : Nat) (w : World) (hown : w.ownsRow B 5 1 v l.length (bcells l)) (hB : B ≤ w.heap.size) (hn : n < 18446744073709551616) (hl : l.length ≤ 1000000) :
    Calls Tryd.prog 39 #[v, .int .u64 n] w (Onto w B v (l ++ numB n)) := by
  have h := szN_le n
  rcases (by omega : szN n = 0 ∨ szN n = 1 ∨ szN n = 2 ∨ szN n = 3 ∨ szN n = 4 ∨ szN n = 5 ∨ szN n = 6 ∨ szN n = 7 ∨ szN n = 8) with h | h | h | h | h | h | h | h | h
  · exact layNum0 B v l n w hown hB hn hl h
  · exact layNum1 B v l n w hown hB hn hl h
  · exact layNum2 B v l n w hown hB hn hl h
  · exact layNum3 B v l n w hown hB hn hl h
  · exact layNum4 B v l n w hown hB hn hl h
  · exact layNum5 B v l n w hown hB hn hl h
  · exact layNum6 B v l n w hown hB hn hl h
  · exact layNum7 B v l n w hown hB hn hl h
  · exact layNum8 B v l n w hown hB hn hl h
end Go.Proofs.YtcifabichcjjjaaDoor
