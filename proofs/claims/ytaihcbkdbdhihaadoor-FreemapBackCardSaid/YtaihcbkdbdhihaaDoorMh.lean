/-
  The document's own map: its bytes, its runs, and which map bytes are, over this seat's translation; conditions: the map lies as a list of bools of the call's own, at most 1024 of them.
-/
import Derived.Test.YtaihcbkdbdhihaaDoorMg
import Derived.Test.YtaihcbkdbdhihaaDoorMi
import Derived.Test.YtaihcbkdbdhihaaDoorMf
namespace Go.Proofs.YtaihcbkdbdhihaaDoor
open Go.RowKit

set_option maxHeartbeats 1000000 in
theorem rput_any (p q : Nat) (us : List Bool) (w : World) (h : RM w p q us) (hn : us.length ≤ 1024) :
    Calls Tryd.prog 33 #[.pointer (some ⟨p, 0, none⟩)] w fun e w' => e = .returned (.string (putB us)) ∧ w.grownBy w' none := by
  have hc := h.head
  have HR := Lib.hid h
  have hplt := h.1.lt
  clear h
  obtain ⟨S, hS⟩ : ∃ S, (us.length + 7) / 8 = S := ⟨_, rfl⟩
  have hSi : ((us.length : Int) + 7) / 8 = (S : Int) := by omega
  have hSw : IntKind.i64.wrap (S : Int) = (S : Int) := IntWalk.i64_in _ (by omega)
  have hSb : S ≤ 128 := by omega
  have HS := Lib.hid hS
  clear hS
  have mk : ∀ W, (Instr.makeSlice 72 (.int .i64 (S : Nat)) (.int .i64 (S : Nat))).run Tryd.prog W = .ok (.slice (some ⟨W.heap.size, 0, none⟩) S S) (W.alloc (.cells (bytesC (List.replicate S 0)).toArray 5)) := fun W => make_bytes S (S : Nat) W rfl (by omega)
  go_enter Tryd.func33, Tryd.ntmps33
  go_wp2
  have k0 := Blk.mk w 5 (bytesC (List.replicate S 0)).toArray
  have g0 := gb_alloc w (.cells (bytesC (List.replicate S 0)).toArray 5) none
  generalize w.alloc (.cells (bytesC (List.replicate S 0)).toArray 5) = W0 at k0 g0 ⊢
  have hz0 : putTo us 0 = List.replicate S 0 := by rw [putTo_zero, HS.out]
  rw [← hz0] at k0
  have HG := Lib.hid g0
  clear hz0 mk g0 hSi hSw
  go_loopw [4] (fun v wr => ∃ k : Nat, k ≤ us.length ∧ v = .int .i64 k ∧ Blk wr w.heap.size 5 (bytesC (putTo us k)).toArray ∧ w.grownBy wr none) (fun v _ => us.length - (intOf v).toNat)
  case atStart => exact ⟨0, by omega, rfl, k0, HG.out⟩
  case round =>
    obtain ⟨k, hk, rfl, bk, hg⟩ := hrel
    have hlen : (putTo us k).length = S := by rw [putTo_length, HS.out]
    have hR := HR.out.keep0 hg
    have hc1 := hR.head
    clear k0 hc
    by_cases hlt : k < us.length
    · have hd := hR.at k hlt
      obtain ⟨b, hb⟩ : ∃ b, us.getD k false = b := ⟨_, rfl⟩
      rw [hb] at hd
      cases b
      · have HF := Lib.hid (putTo_false us k hb)
        have HB := Lib.hid (And.intro bk hg)
        clear bk hg hb hR
        go_wp2
        go_roundw
        case rel => exact ⟨k + 1, by omega, by go_num, by rw [HF.out]; exact HB.out.1, HB.out.2⟩
        case measure => simp [intOf]; omega
      · obtain ⟨ht1, ht2⟩ := putTo_true us k hlt hb
        obtain ⟨q8, hq8⟩ : ∃ q8, k / 8 = q8 := ⟨_, rfl⟩
        rw [hq8] at ht1 ht2
        have hqS : q8 < S := by have := HS.out; omega
        have b0 := bk.cell q8 (v := .int .u8 (byN (natOf (us.take k)) q8 : Nat)) (by rw [List.getElem?_toArray, bytes_at (by omega), List.getD_eq_getElem?_getD, putTo_at us k q8 (by rw [HS.out]; exact hqS), Option.getD_some, u8_back (byN_lt _ _)])
        have f0 := bk.free q8
        generalize byN (natOf (us.take k)) q8 = c at ht1 ht2 b0
        have hqi : (k : Int) / 8 = (q8 : Int) := by omega
        have hqw : IntKind.i64.wrap (q8 : Int) = (q8 : Int) := IntWalk.i64_in _ (by omega)
        have hb2 : (q8 : Int) < (S : Int) := by omega
        have hval : ((c : Int) + 2 ^ (k % 8)) % 256 = ((c + 2 ^ (k % 8) : Nat) : Int) := by
          rw [show (2 : Int) ^ (k % 8) = ((2 ^ (k % 8) : Nat) : Int) from by simp]
          generalize 2 ^ (k % 8) = pw at ht1 ⊢
          omega
        have hnew : Blk ((wr.setCell ⟨w.heap.size, q8, none⟩ (.int .u8 (((c : Int) + 2 ^ (k % 8)) % 256))).drew) w.heap.size 5 (bytesC (putTo us (k + 1))).toArray := by
          rw [hval, ht2, ← bytes_set, u8_back ht1]
          exact bk.set q8 _
        have HN := Lib.hid (And.intro hnew hg)
        clear hval hnew bk hg hb hR ht1 ht2 hq8
        go_wp2
        go_region
        all_goals
          go_wp2
          go_roundw
          case rel => exact ⟨k + 1, by omega, by go_num, HN.out.1, gb_step (gb_step HN.out.2 (gb_set _ _ _ _ _) (Nat.le_refl _)) (gb_weak (gb_drew _ _) (some w.heap.size)) (Nat.le_refl _)⟩
          case measure => simp [intOf]; omega
    · obtain rfl : k = us.length := by omega
      rw [putTo_all] at bk hlen
      have hst := blk_str bk S hlen.symm
      have HGG := Lib.hid hg
      clear bk hg hR hlen
      go_wp2
      go_ret
      exact ⟨rfl, HGG.out⟩

/-- A map that was read, or none, by the document. -/
def RReadGot (w : World) (us : List Bool) (b : Bool) (e : Ending) (w' : World) : Prop :=
  (b = true → e = .returned (.tuple #[.pointer (some ⟨w.heap.size + 1, 0, none⟩), .int .i64 0]) ∧ RM w' (w.heap.size + 1) w.heap.size us) ∧ (b = false → e = .returned (.tuple #[.pointer none, .int .i64 5])) ∧ w.grownBy w' none
theorem rread_arg (n : Int) (s : ByteArray) (w : World) (h : n < 1 ∨ 1024 < n) (h1 : -9223372036854775808 ≤ n) (h2 : n ≤ 9223372036854775807) :
    Calls Tryd.prog 24 #[.int .i64 n, .string s] w fun e w' => e = .returned (.tuple #[.pointer none, .int .i64 2]) ∧ w = w' := by
  have HN := Lib.hid (fun W => rnew_no n W h h1 h2)
  clear h
  go_enter Tryd.func24, Tryd.ntmps24
  go_wp2_with (go_at_call 9; (with_reducible refine (HN.out _).mono ?_); rintro e w' ⟨rfl, rfl⟩)
  go_ret2
  exact ⟨rfl, rfl⟩
theorem usUp_stop (n : Nat) (l : List UInt8) (k : Nat) (h : l.length ≤ k / 8) : usUp n (leN l) k = usOf n l := by
  unfold usUp usOf
  refine List.map_congr_left fun i _ => ?_
  by_cases hik : i < k
  · rw [decide_eq_true hik, Bool.true_and]
  · rw [decide_eq_false hik, Bool.false_and, leN_bit, List.getD_eq_getElem?_getD, List.getElem?_eq_none (by omega)]; simp
theorem usUp_set (n S k : Nat) (hk : k < n) : usUp n S (k + 1) = (usUp n S k).set k (S.testBit k) := by
  cases h : S.testBit k
  · rw [usUp_no h]
    refine List.ext_getElem? fun i => ?_
    rw [List.getElem?_set]
    by_cases e : k = i
    · subst e
      rw [if_pos rfl, usUp_length, if_pos hk]
      unfold usUp
      rw [List.getElem?_map, List.getElem?_range hk]; simp
    · rw [if_neg e]
  · exact usUp_yes hk h
theorem bit_test (x : Nat) (r : Nat) (hx : x < 256) : (bits BinOp.and IntKind.u8 ((x : Int) / 2 ^ r) 1 == 1) = x.testBit r := by
  rw [int_div_pow, show (1 : Int) = ((1 : Nat) : Int) from rfl, u8_and_nat _ _ (Nat.lt_of_le_of_lt (Nat.div_le_self _ _) hx) (by decide), bit_of_div]
  cases x.testBit r <;> rfl
set_option maxHeartbeats 1000000 in
theorem rread_any (n : Nat) (s : ByteArray) (w : World) (h1 : 1 ≤ n) (h2 : n ≤ 1024) (hs : s.size ≤ 1000) (b : Bool) (hb : formOk n s.data.toList = b) :
    Calls Tryd.prog 24 #[.int .i64 (n : Nat), .string s] w (RReadGot w (usOf n s.data.toList) b) := by
  have HN := Lib.hid (fun W => rnew_yes n W h1 h2)
  have HP := Lib.hid (fun p q W h => rput_any p q (usOf n s.data.toList) W h (by rw [usOf_length]; exact h2))
  have hcmp : ((putB (usOf n s.data.toList)).toList == s.toList) = b := by
    rw [← hb, Bool.eq_iff_iff, beq_iff_eq, ← formOk_iff]
    have e1 : (putB (usOf n s.data.toList)).toList = putF (usOf n s.data.toList) := by rw [ByteArray.toList_eq]; rfl
    rw [e1, ByteArray.toList_eq]
  have HC := Lib.hid hcmp
  clear hcmp hb
  go_enter Tryd.func24, Tryd.ntmps24
  go_wp2_with (go_at_call 9; (with_reducible refine (HN.out _).mono ?_); rintro e w1 ⟨rfl, hR1, g1⟩)
  have hR0 : RM w1 (w.heap.size + 1) w.heap.size (usUp n (leN s.data.toList) 0) := by rw [usUp_zero]; exact hR1
  have H1 := Lib.hid (And.intro hR0 g1)
  clear hR0 hR1 g1 HN
  go_loopw [7] (fun v wr => ∃ k : Nat, k ≤ n ∧ v = .int .i64 k ∧ RM wr (w.heap.size + 1) w.heap.size (usUp n (leN s.data.toList) k) ∧ w.grownBy wr none) (fun v _ => n - (intOf v).toNat)
  case atStart => exact ⟨0, by omega, rfl, H1.out.1, H1.out.2⟩
  case round =>
    obtain ⟨k, hk, rfl, hR, hg⟩ := hrel
    clear H1
    by_cases hin : k < n ∧ k / 8 < s.size
    · obtain ⟨hlt, hq⟩ := hin
      have hc1 := hR.head
      rw [usUp_length] at hc1
      have f0 := hR.2.free k
      have d0 := hR.at k (by rw [usUp_length]; exact hlt)
      generalize (usUp n (leN s.data.toList) k).getD k false = d at d0
      obtain ⟨q8, hq8⟩ : ∃ q8, k / 8 = q8 := ⟨_, rfl⟩
      have hqi : (k : Int) / 8 = (q8 : Int) := by omega
      have hqw : IntKind.i64.wrap (q8 : Int) = (q8 : Int) := IntWalk.i64_in _ (by omega)
      rw [hq8] at hq
      have hb2 : (q8 : Int) < (s.size : Int) := by omega
      have hbit : (leN s.data.toList).testBit k = (s[q8].toNat).testBit (k % 8) := by
        rw [leN_bit, hq8, List.getD_eq_getElem?_getD, List.getElem?_eq_getElem (by simpa using hq)]; rfl
      have hcl : s[q8].toNat < 256 := s[q8].toNat_lt
      have hst := hR.set k ((leN s.data.toList).testBit k)
      rw [← usUp_set n (leN s.data.toList) k hlt, hbit, ← bit_test _ (k % 8) hcl] at hst
      have HN := Lib.hid (And.intro hst hg)
      clear hst hR hg hbit hq8
      go_wp2
      go_region
      all_goals
        go_wp2
        go_roundw
        case rel => exact ⟨k + 1, by omega, by go_num, HN.out.1.keep0 (gb_drew _ _), gb_step (gb_step HN.out.2 (gb_set _ _ _ _ _) (Nat.le_refl _)) (gb_weak (gb_drew _ _) (some w.heap.size)) (Nat.le_refl _)⟩
        case measure => simp [intOf]; omega
    · have hus : usUp n (leN s.data.toList) k = usOf n s.data.toList := by
        by_cases hlt : k < n
        · exact usUp_stop n _ k (by have : ¬ k / 8 < s.size := fun h => hin ⟨hlt, h⟩; simp; omega)
        · obtain rfl : k = n := by omega
          exact usUp_all _ _
      rw [hus] at hR
      have HPP := Lib.hid (HP.out _ _ _ hR)
      have HR := Lib.hid (And.intro hR hg)
      clear hus hR hg HP
      have hcn : ((putB (usOf n s.data.toList)).toList == s.toList) = b := HC.out
      generalize putB (usOf n s.data.toList) = B at HPP HC hcn
      by_cases hlt : k < n
      all_goals
        cases b
        all_goals
          go_wp2_with (go_at_call 33; (with_reducible refine HPP.out.mono ?_); rintro e w2 ⟨rfl, g2⟩)
          go_ret2
          first
            | exact ⟨(fun e => by cases e), fun _ => rfl, gb_trans HR.out.2 g2⟩
            | exact ⟨fun _ => ⟨rfl, HR.out.1.keep0 g2⟩, (fun e => by cases e), gb_trans HR.out.2 g2⟩

theorem own_free {w : World} {base g n cap size : Nat} {e : TypeId} {xs : List Value} (h : w.ownsRow base e size (.slice (some ⟨g, 0, none⟩) n cap) n xs) (j : Nat) : w.frozen? ⟨g, j, none⟩ = false := by
  rcases h.2 with ⟨h1, _⟩ | ⟨g2, cap2, cur, h1, _, h2, _⟩
  · cases h1
  · injection h1 with h3
    injection h3 with h3
    injection h3 with h4
    subst h4
    exact Blk.free h2 j
theorem own_keep0' {w w' : World} {base : Nat} {e : TypeId} {size : Nat} {v : Value} {n : Nat} {xs : List Value} (h : w.ownsRow base e size v n xs) (g : w.grownBy w' none) : w'.ownsRow base e size v n xs := by
  refine h.kept g ?_
  cases hv : v.ownBlock
  · exact .inl rfl
  · exact .inr (by simp)
/-- The runs that the document has made so far. -/
def RunsIn (w : World) (l : List (Nat × Nat)) (v : Value) (W : World) : Prop := W.ownsRow w.heap.size 53 2 v l.length (pairsC l) ∧ w.grownBy W none
set_option maxHeartbeats 2000000 in
theorem rruns_any (p q : Nat) (us : List Bool) (w : World) (h : RM w p q us) (hn : us.length ≤ 1024) :
    Calls Tryd.prog 34 #[.pointer (some ⟨p, 0, none⟩)] w (RunsGot w (runsF us)) := by
  obtain ⟨i0, hi, hz0, hz1, hz2⟩ := info_parts Tryd.infoPair
  have hc := h.head
  have hpl := h.1.lt
  have hql := h.2.lt
  have HR := Lib.hid h
  clear h
  go_enter Tryd.func34, Tryd.ntmps34
  go_wp2
  go_loopw [3, 4] (fun v i wr => ∃ k : Nat, k ≤ us.length ∧ i = .int .i64 k ∧ RunsIn w (runsTo us k) v wr) (fun _ i _ => us.length - (intOf i).toNat)
  case atStart => exact ⟨0, by omega, rfl, World.ownsRow_nil _ _ _ _, gb_refl _ _⟩
  case round =>
    obtain ⟨k, hk, rfl, own, hg⟩ := hrel
    obtain ⟨ao, cap, rfl, -⟩ := Sl.of_owns own
    have hR := HR.out.keep0 hg
    have hc1 := hR.head
    have hlen := runsTo_len (us := us) k
    have hsz := hg.size
    clear hc
    by_cases hlt : k < us.length
    · have hd := hR.at k hlt
      obtain ⟨b, hb⟩ : ∃ b, us.getD k false = b := ⟨_, rfl⟩
      rw [hb] at hd
      cases b
      · by_cases hnew : k = 0 ∨ us.getD (k - 1) false = true
        · have HT := Lib.hid (runsTo_new hb hnew)
          have hprev : k = 0 ∨ (0 < k ∧ wr.cell? ⟨q, k - 1, none⟩ = some (.bool true)) := by
            rcases Nat.eq_zero_or_pos k with h0 | h0
            · exact .inl h0
            · right
              refine ⟨h0, ?_⟩
              rw [hR.at (k - 1) (by omega)]
              rcases hnew with h1 | h1
              · omega
              · rw [h1]
          generalize runsTo us k = L at *
          have hfin : ∀ v3 w3 (z : Int), z = (k : Int) → w3.ownsRow w.heap.size 53 2 v3 (L.length + 1) (pairsC L ++ [.int .i64 z, .int .i64 1]) → (wr.alloc (.cells #[.int .i64 z, .int .i64 1] 53)).grownBy w3 (Value.slice ao L.length cap).ownBlock → RunsIn w (L ++ [(k, 1)]) v3 w3 := by
            intro v3 w3 z hz o3 g3
            subst hz
            refine ⟨owns_cast o3 (by simp) ?_, gb_app hg own (Nat.le_refl _) g3⟩
            rw [pairsC_snoc]; rfl
          have HF := Lib.hid hfin
          clear hfin hb hR hnew
          rcases hprev with h0 | ⟨h0, hpc⟩
          · subst h0
            have HZ : Hid (∀ v3 w3, w3.ownsRow w.heap.size 53 2 v3 (L.length + 1) (pairsC L ++ [.int .i64 0, .int .i64 1]) → (wr.alloc (.cells #[.int .i64 0, .int .i64 1] 53)).grownBy w3 (Value.slice ao L.length cap).ownBlock → RunsIn w (L ++ [(0, 1)]) v3 w3) := Lib.hid (fun v3 w3 => HF.out v3 w3 0 rfl)
            clear HF
            go_wp2_with (at_builtin; go_must (refine wpList_append_own _ rfl _ _ 49 rfl w.heap.size 53 i0 (.agg #[.int .i64 0, .int .i64 0]) 2 16 Tryd.underlying49 hi hz0 hz1 hz2 rfl (by decide) _ _ _ rfl (own.alloc _) ⟨wr.heap.size, 0, none⟩ 1 1 [.int .i64 0, .int .i64 1] rfl rfl (cells2_new _ _ _ _) (one_pair _ _) (by unfold maxLen; omega) (by omega) (by simp; omega) ?_; intro v3 w3 own3 g3 _))
            have hr := HZ.out _ _ own3 g3
            have HQ := Lib.hid hr
            clear own3 g3 hr own hg
            go_roundw
            case rel => exact ⟨0 + 1, by omega, by go_num, by rw [HT.out]; exact HQ.out⟩
            case measure => simp [intOf]; omega
          · have hk0 : (0 : Int) < (k : Int) := by omega
            have hk1 : ((k : Int) - 1).toNat = k - 1 := by omega
            go_wp2_with (at_builtin; go_must (refine wpList_append_own _ rfl _ _ 49 rfl w.heap.size 53 i0 (.agg #[.int .i64 0, .int .i64 0]) 2 16 Tryd.underlying49 hi hz0 hz1 hz2 rfl (by decide) _ _ _ rfl (own.alloc _) ⟨wr.heap.size, 0, none⟩ 1 1 [.int .i64 (k : Nat), .int .i64 1] rfl rfl (cells2_new _ _ _ _) (one_pair _ _) (by unfold maxLen; omega) (by omega) (by simp; omega) ?_; intro v3 w3 own3 g3 _))
            have hr := HF.out _ _ _ rfl own3 g3
            have HQ := Lib.hid hr
            clear own3 g3 hr own hg
            go_roundw
            case rel => exact ⟨k + 1, by omega, by go_num, by rw [HT.out]; exact HQ.out⟩
            case measure => simp [intOf]; omega
        · have h0 : 0 < k := by
            rcases Nat.eq_zero_or_pos k with h0 | h0
            · exact absurd (.inl h0) hnew
            · exact h0
          have hpf : us.getD (k - 1) false = false := by
            cases h9 : us.getD (k - 1) false
            · rfl
            · exact absurd (.inr h9) hnew
          have hpc := hR.at (k - 1) (by omega)
          rw [hpf] at hpc
          obtain ⟨l, a, m, hl, ham, hm1⟩ := runsTo_last h0 hpf
          have HT := runsTo_more hb h0 hpf
          rw [hl, bump_snoc] at HT
          have HTT := Lib.hid HT
          rw [hl, List.length_append, List.length_singleton] at own
          have hal : l.length ≤ 1024 := by rw [hl, List.length_append] at hlen; omega
          obtain ⟨g4, cap4, hv⟩ := ownsRow_succ own
          injection hv with e1 e2 e3
          subst e1 e3
          clear e2
          rw [hl, List.length_append, List.length_singleton]
          have hpl2 := pairsC_length l
          have hx : (pairsC (l ++ [(a, m)]))[l.length * 2 + 1]? = some (.int .i64 (m : Nat)) := by
            rw [pairsC_snoc, List.getElem?_append_right (by omega), hpl2, show l.length * 2 + 1 - l.length * 2 = 1 from by omega]; rfl
          have c2 := own.cells (g := g4) rfl (l.length * 2 + 1) _ hx
          rw [add_at, Nat.zero_add] at c2
          have f2 := own_free own (l.length * 2 + 1)
          have hst := own.stored (l.length * 2 + 1) (.int .i64 ((m + 1 : Nat) : Int))
          have hset : (pairsC (l ++ [(a, m)])).set (l.length * 2 + 1) (.int .i64 ((m + 1 : Nat) : Int)) = pairsC (l ++ [(a, m + 1)]) := by
            rw [pairsC_snoc, pairsC_snoc, List.set_append_right _ _ (by omega), hpl2, show l.length * 2 + 1 - l.length * 2 = 1 from by omega]; rfl
          rw [hset] at hst
          have hnr : RunsIn w (l ++ [(a, m + 1)]) (.slice (some ⟨g4, 0, none⟩) (l.length + 1) cap) ((wr.setCell ⟨g4, l.length * 2 + 1, none⟩ (.int .i64 ((m + 1 : Nat) : Int))).drew) := by
            refine ⟨?_, ?_⟩
            · rw [List.length_append]
              exact own_keep0' hst.1 (gb_drew _ _)
            · exact gb_trans (gb_step hg hst.2 (own.lt g4 rfl).1) (gb_drew _ _)
          have HN := Lib.hid (show RunsIn w (l ++ [(a, m + 1)]) (.slice (some ⟨g4, 0, none⟩) (l.length + 1) cap) ((wr.setCell ⟨g4, l.length * 2 + 1, none⟩ (.int .i64 ((m : Int) + 1))).drew) from hnr)
          obtain ⟨M, hM⟩ : ∃ M, l.length = M := ⟨_, rfl⟩
          rw [hM] at hal c2 f2 HN ⊢
          have hk0 : (0 : Int) < (k : Int) := by omega
          have hk1 : ((k : Int) - 1).toNat = k - 1 := by omega
          clear hnr hset hst own hx hpl2 hM hl hR hg hb hpf hnew hlen HT
          go_wp2
          go_region
          all_goals
            go_wp2
            go_roundw
            case rel => exact ⟨k + 1, by omega, by go_num, by rw [HTT.out]; exact HN.out⟩
            case measure => simp [intOf]; omega
      · have HT := Lib.hid (runsTo_used hb)
        have HO := Lib.hid (And.intro own hg)
        clear own hg hb hR
        go_wp2
        go_roundw
        case rel => exact ⟨k + 1, by omega, by go_num, by rw [HT.out]; exact HO.out⟩
        case measure => simp [intOf]; omega
    · obtain rfl : k = us.length := by omega
      have HO := Lib.hid (And.intro own hg)
      clear own hg hR
      go_wp2
      go_ret
      exact ⟨_, rfl, Sl.of_owns HO.out.1, HO.out.2⟩
end Go.Proofs.YtaihcbkdbdhihaaDoor
