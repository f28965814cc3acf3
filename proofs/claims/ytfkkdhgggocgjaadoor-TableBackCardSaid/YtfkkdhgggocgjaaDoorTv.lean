/-
  What the statements' own 'is' and 'alike' answer, and each call upon two tables that hold the same, over this seat's translation; conditions: the tables' blocks are there, the variable errors.errorType holds its type's handle.
-/
import Derived.Test.YtfkkdhgggocgjaaDoorTu
namespace Go.Proofs.YtfkkdhgggocgjaaDoor
open Go.RowKit

theorem law_is_nil (p : Int) (w : World) :
    Calls Tryd.prog 13 #[.nilIface, .agg #[.int .i64 0, .int .i64 p]] w fun e w' => e = .returned (.bool true) ∧ w.grownBy w' none := by
  go_enter Tryd.func13, Tryd.ntmps13
  go_wp2
  go_ret
  exact ⟨rfl, gb_alloc _ _ _⟩
set_option maxHeartbeats 1000000 in
theorem law_is_fault (a : Nat) (c p : Int) (w : World) (hd : Hd w) (hf : Ft w a c p) (hc : (c == 0) = false) :
    Calls Tryd.prog 13 #[.iface 67 (.pointer (some ⟨a, 0, none⟩)), .agg #[.int .i64 c, .int .i64 p]] w fun e w' => e = .returned (.bool true) ∧ w.grownBy w' none := by
  have q := Tryd.eqlFault
  have hl := hf.lt
  go_enter Tryd.func13, Tryd.ntmps13
  go_wp2
  obtain ⟨w0, hw0⟩ : ∃ w0 : World, w0 = (w.alloc (.cells #[.int .i64 c, .int .i64 p] 40)).alloc (.cells #[.pointer none] 67) := ⟨_, rfl⟩
  have g0 : w.grownBy w0 none := by rw [hw0]; exact gb_trans (gb_alloc _ _ _) (gb_alloc _ _ _)
  have d0 := hd.keep0 g0
  have f0 := hf.keep0 g0
  have k0 : Blk w0 w.heap.size 40 #[.int .i64 c, .int .i64 p] := by rw [hw0]; exact (Blk.mk _ _ _).keep0 (gb_alloc _ _ _)
  have t0 : Blk w0 (w.heap.size + 1) 67 #[.pointer none] := by
    rw [hw0]; have := Blk.mk (w.alloc (.cells #[.int .i64 c, .int .i64 p] 40)) 67 #[.pointer none]; simpa using this
  rw [← hw0]
  clear hw0
  have e0 := gb_drew w0 none
  replace d0 := d0.keep0 e0
  replace f0 := f0.keep0 e0
  replace k0 := k0.keep0 e0
  replace t0 := t0.keep0 e0
  replace g0 := gb_trans g0 e0
  clear e0
  go_region_with (first | (go_at_call 34; refine (as_hit2 ⟨a, 0, none⟩ (w.heap.size + 1) (.pointer none) _ d0 t0).mono ?_; rintro e w1 ⟨rfl, t1, g1⟩; have f1 := f0.keep g1 (ne_some (by omega)); have k1 := k0.keep g1 (ne_some (by omega)); have tc := Blk.cell t1 0 rfl; have fc := Blk.cell f1 0 rfl; have fp := Blk.cell f1 1 rfl; have kc := Blk.cell k1 0 rfl; have kp := Blk.cell k1 1 rfl) | (go_at_call 35; refine (is_hit ⟨a, 0, none⟩ c _ fc).mono ?_; rintro e w2 ⟨rfl, rfl⟩))
  all_goals
    go_wp2
    go_ret
    exact ⟨rfl, gb_step g0 g1 (by omega)⟩
theorem ints_same (v u : Value) (l : List Nat) (w : World) (hv : Nts w v l) (hu : Nts w u l) (hl : l.length ≤ 1000000) :
    Calls Tryd.prog 28 #[v, u] w fun e w' => e = .returned (.bool true) ∧ w.grownBy w' none :=
  ints_k v u l l true (decide_eq_true rfl) w hv hu hl hl
theorem secsF_length {P : List Nat} (h : P.length = 960) : (secsF P).length ≤ 1000000 := by
  have : (secsF P).length ≤ P.length := List.length_filter_le _ _
  omega
theorem dirtyF_length (D : List Bool) : (dirtyF D).length ≤ 1000000 := by
  have : (dirtyF D).length ≤ 8 := dirtyTo_length D 8
  omega
theorem nts_keep {w w' : World} {v : Value} {l : List Nat} (h : Nts w v l) (g : w.grownBy w' none) : Nts w' v l := Sl.keep0 h g
theorem beq_text (x : ByteArray) : (x.toList == x.toList) = true := by simp
set_option maxRecDepth 100000 in
set_option maxHeartbeats 2000000 in
theorem alike_any (p q : Nat) (s : TB) (w : World) (h : PT w p s) (hr : RT w q s) :
    Calls Tryd.prog 22 #[.pointer (some ⟨p, 0, none⟩), .pointer (some ⟨q, 0, none⟩)] w fun e w' => e = .returned (.bool true) ∧ w.grownBy w' none := by
  have hl1 := secsF_length h.fit.1
  have hl2 := dirtyF_length s.D
  have HPR := Lib.hid (And.intro h hr)
  have HL := Lib.hid (And.intro hl1 hl2)
  clear h hr hl1 hl2
  go_enter Tryd.func22, Tryd.ntmps22
  go_wp2_with (first
    | (go_at_call 27; (with_reducible refine (lowest_any p s _ HPR.out.1).mono ?_); rintro e w1 ⟨rfl, g1⟩)
    | (go_at_call 39; (with_reducible refine (rlowest_any q s _ (HPR.out.2.keep0 g1)).mono ?_); rintro e w2 ⟨rfl, g2⟩; replace g2 := gb_trans g1 g2; clear g1; generalize lowN s.P = ln; generalize lowE s.P = le)
    | (go_at_call 26; (with_reducible refine (sectors_any p s _ (HPR.out.1.keep0 g2)).mono ?_); rintro e w3 ⟨v3, rfl, o3, g3⟩)
    | (go_at_call 40; (with_reducible refine (rsectors_any q s _ (HPR.out.2.keep0 (gb_trans g2 g3))).mono ?_); rintro e w4 ⟨v4, rfl, o4, g4⟩)
    | (go_at_call 28; (with_reducible refine (ints_same _ _ (secsF s.P) _ (nts_keep (Sl_owns o3) g4) (Sl_owns o4) HL.out.1).mono ?_); rintro e w5 ⟨rfl, g5⟩; replace g2 := gb_trans g2 (gb_trans g3 (gb_trans g4 g5)); clear g3 g4 g5 o3 o4)
    | (go_at_call 25; (with_reducible refine (dirty_any p s _ (HPR.out.1.keep0 g2)).mono ?_); rintro e w6 ⟨v6, rfl, o6, g6⟩)
    | (go_at_call 41; (with_reducible refine (rdirty_any q s _ (HPR.out.2.keep0 (gb_trans g2 g6))).mono ?_); rintro e w7 ⟨v7, rfl, o7, g7⟩)
    | (go_at_call 28; (with_reducible refine (ints_same _ _ (dirtyF s.D) _ (nts_keep (Sl_owns o6) g7) (Sl_owns o7) HL.out.2).mono ?_); rintro e w8 ⟨rfl, g8⟩; replace g2 := gb_trans g2 (gb_trans g6 (gb_trans g7 g8)); clear g6 g7 g8 o6 o7))
  have HG := Lib.hid g2
  clear g2
  go_loopw [9] (fun i wr => ∃ k : Nat, k ≤ 10 ∧ i = .int .i64 ((k : Int) - 1) ∧ w.grownBy wr none) (fun i _ => 100 - ((intOf i) + 1).toNat)
  case atStart => exact ⟨0, by omega, rfl, HG.out⟩
  case round =>
    obtain ⟨k, hk, rfl, hg⟩ := hrel
    clear HG
    by_cases hlt : k < 10
    · have HG := Lib.hid hg
      have hbt := beq_text ⟨(chunkF s.P ((k : Int) - 1)).toArray⟩
      have HT := Lib.hid (fun (w1 : World) (g : w.grownBy w1 none) => chunkT_any p s ((k : Int) - 1) w1 (HPR.out.1.keep0 g))
      have HR := Lib.hid (fun (w1 : World) (g : w.grownBy w1 none) => rchunk_any q s ((k : Int) - 1) w1 (HPR.out.2.keep0 g))
      unfold ChunkGot at HT HR
      generalize (⟨(chunkF s.P ((k : Int) - 1)).toArray⟩ : ByteArray) = t at hbt HT HR
      clear hg
      go_wp2_with (first
        | (go_at_call 24; (with_reducible refine (HT.out _ HG.out).mono ?_); rintro e w3 ⟨rfl, g3⟩)
        | (go_at_call 12; (with_reducible refine (HR.out _ (gb_trans HG.out g3)).mono ?_); rintro e w4 ⟨rfl, g4⟩))
      go_roundw
      case rel => exact ⟨k + 1, by omega, by go_num, gb_trans HG.out (gb_trans g3 g4)⟩
      case measure => simp [intOf]; omega
    · obtain rfl : k = 10 := by omega
      have HG := Lib.hid hg
      clear hg
      go_wp2
      go_ret
      exact ⟨rfl, HG.out⟩
end Go.Proofs.YtfkkdhgggocgjaaDoor

