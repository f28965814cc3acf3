/-
  The choices of a fate, by the document's own answer (foyerref04.Put), over this seat's translation; conditions: the slice reads as a list of bools.
-/
import Derived.Test.YtefpnhckplcfgaaDoorFt9
namespace Go.Proofs.YtefpnhckplcfgaaDoor
open Go.RowKit

theorem ahead_end (l : List Bool) {t a : Int} (h : mayF l t a = true) : aheadN l t = (cameTo l t.toNat).length := by
  rcases may_cases h with ⟨rfl, _⟩ | ⟨i, rfl, hi, hb, _⟩
  · rw [ahead_minus]; rfl
  · rw [ahead_i l i hi hb]; rfl
theorem addAt_length (l : List UInt8) (i : Nat) : (addAt l i).length = l.length := by simp [addAt]
theorem foldl_add_length (is : List Nat) : ∀ l : List UInt8, (is.foldl addAt l).length = l.length := by
  induction is with
  | nil => intro l; rfl
  | cons i is ih => intro l; rw [List.foldl_cons, ih, addAt_length]
def addsTo (l : List Bool) (k : Nat) : List UInt8 := (cameTo l k).foldl addAt (List.replicate (sizeN l.length) 0)
theorem addsTo_length (l : List Bool) (k : Nat) : (addsTo l k).length = sizeN l.length := by
  unfold addsTo; rw [foldl_add_length]; simp
theorem addsTo_no {l : List Bool} {k : Nat} (h : l.getD k false = false) : addsTo l (k + 1) = addsTo l k := by
  unfold addsTo; rw [cameTo_no h]
theorem addsTo_yes {l : List Bool} {k : Nat} (h : l.getD k false = true) : addsTo l (k + 1) = addAt (addsTo l k) k := by
  unfold addsTo; rw [cameTo_yes h, List.foldl_append]; rfl
theorem u8_mod (n : Nat) : (UInt8.ofNat n).toNat = n % 256 := by simp
theorem bytes_setm (s : List UInt8) (q z : Nat) : (bytesC s).toArray.setIfInBounds q (.int .u8 ((z % 256 : Nat) : Int)) = (bytesC (s.set q (UInt8.ofNat z))).toArray := by
  rw [List.setIfInBounds_toArray]
  congr 1
  unfold bytesC
  rw [List.map_set, u8_mod z]
set_option maxRecDepth 100000 in
set_option maxHeartbeats 2000000 in
theorem refPut_any (v : Value) (b : List Bool) (t a : Int) (w : World) (hv : Bls w v b) (hb : b.length ≤ 1000000) : Calls Tryd.prog 16 #[.agg #[v, .int .i64 t, .int .i64 a]] w (PutGot w b t a) := by
  have HV := Lib.hid hv
  obtain ⟨A, hA⟩ : ∃ A, aheadN b t = A := ⟨_, rfl⟩
  obtain ⟨S, hS⟩ : ∃ S, sizeN b.length = S := ⟨_, rfl⟩
  have hMy := fun W g => refMay_any v b t a W (HV.out.keep0 g)
  have HMy := Lib.hid hMy
  have HA := Lib.hid hA
  have HS := Lib.hid hS
  clear hMy hA hS
  obtain ⟨ao, cap, rfl, hnil, hcells⟩ := bls_parts hv
  have HN := Lib.hid hnil
  have HC := Lib.hid hcells
  clear hnil hcells hv
  go_enter Tryd.func16, Tryd.ntmps16
  go_wp2_with fail
  have g0 := gb_alloc w (.cells #[.slice ao b.length cap, .int .i64 t, .int .i64 a] 27) none
  have b0 := Blk.mk w 27 #[.slice ao b.length cap, .int .i64 t, .int .i64 a]
  generalize w.alloc (.cells #[.slice ao b.length cap, .int .i64 t, .int .i64 a] 27) = W0 at g0 b0 ⊢
  go_at_call 31
  (with_reducible refine (HMy.out W0 g0).mono ?_)
  rintro e w1 ⟨rfl, g1⟩
  replace b0 := b0.keep0 g1
  replace g0 := gb_trans g0 g1
  clear g1 HMy
  cases hmay : mayF b t a with
  | false =>
    have HP := Lib.hid (put_arg b t a hmay)
    clear hmay
    go_wp2
    exact bodyPost_ret (two_row rfl _ _ _) rfl ⟨_, by rw [HP.out.1]; rfl, by rw [HP.out.2]; exact Bts.nil _, g0⟩
  | true =>
    have c00 := b0.cell 0 rfl
    have c01 := b0.cell 1 rfl
    have c02 := b0.cell 2 rfl
    have hae := ahead_end b hmay
    have Hmay := Lib.hid hmay
    have HAe := Lib.hid hae
    have htl : t.toNat ≤ b.length := by
      rcases may_cases hmay with ⟨rfl, _⟩ | ⟨i, rfl, hi, _⟩
      · exact Nat.zero_le _
      · show i ≤ _; omega
    clear hmay hae
    go_wp2_with fail
    go_loop [4, 5] (fun v4 v5 => ∃ k : Nat, k ≤ t.toNat ∧ v5 = .int .i64 k ∧ v4 = .int .i64 ((cameTo b k).length : Nat)) (fun _ v => t.toNat - (intOf v).toNat)
    case atStart => exact ⟨0, by omega, rfl, rfl⟩
    case round =>
      obtain ⟨k, hk, rfl, rfl⟩ := hrel
      have hck := cameTo_le b k
      by_cases hlt : (k : Int) < t
      · have hkl : k < b.length := by omega
        cases ao with
        | none => have := HN.out rfl; omega
        | some x =>
          have d0 := g0.cell (HC.out x rfl k _ (bools_at hkl)) (by simp)
          have hgd : b.getD k false = b[k] := by simp [List.getD, hkl]
          cases hbk : b[k] with
          | false =>
            rw [hbk] at d0 hgd
            have E := Lib.hid (cameTo_no hgd)
            clear hbk hgd
            go_wp2
            go_round
            case rel => exact ⟨k + 1, by omega, by go_num, by rw [E.out]⟩
            case measure => simp [intOf]; omega
          | true =>
            rw [hbk] at d0 hgd
            have E := Lib.hid (cameTo_yes hgd)
            clear hbk hgd
            go_wp2
            go_round
            case rel => exact ⟨k + 1, by omega, by go_num, by rw [E.out, List.length_append]; go_num⟩
            case measure => simp [intOf]; omega
      · have hkt : k = t.toNat := by omega
        have hAk : (cameTo b k).length = A := by rw [← HA.out, HAe.out, hkt]
        have hkt2 := Lib.hid hkt
        rw [hAk]
        clear hck hkt hAk
        by_cases hA1 : 127 < A
        · have HP := Lib.hid (put_long b t a Hmay.out (by unfold longF; rw [HA.out, decide_eq_true hA1]; rfl))
          have hd : decide ((127 : Int) < (A : Int)) = true := decide_eq_true (by omega)
          go_wp2
          exact bodyPost_ret (two_row rfl _ _ _) rfl ⟨_, by rw [HP.out.1]; rfl, by rw [HP.out.2]; exact Bts.nil _, g0⟩
        · have hd : decide ((127 : Int) < (A : Int)) = false := decide_eq_false (by omega)
          by_cases hL : 4096 < b.length
          · have HP := Lib.hid (put_long b t a Hmay.out (by unfold longF; rw [HA.out, decide_eq_true hL]; simp))
            have hd2 : decide ((4096 : Int) < (b.length : Int)) = true := decide_eq_true (by omega)
            go_wp2
            exact bodyPost_ret (two_row rfl _ _ _) rfl ⟨_, by rw [HP.out.1]; rfl, by rw [HP.out.2]; exact Bts.nil _, g0⟩
          · have HP := Lib.hid (put_ok b t a Hmay.out (by unfold longF; rw [HA.out, decide_eq_false hL, decide_eq_false hA1]; rfl))
            have hd2 : decide ((4096 : Int) < (b.length : Int)) = false := decide_eq_false (by omega)
            have hSb : S ≤ 512 := by have := HS.out; unfold sizeN at this; omega
            have hSw : IntKind.i64.wrap (((b.length : Int) + 7) / 8) = (S : Int) := by
              have := HS.out; unfold sizeN at this
              rw [show ((b.length : Int) + 7) / 8 = (S : Int) by omega]; exact IntWalk.i64_in _ (by omega)
            have mk : ∀ W, (Instr.makeSlice 22 (.int .i64 (((b.length : Int) + 7) / 8)) (.int .i64 (((b.length : Int) + 7) / 8))).run Tryd.prog W = .ok (.slice (some ⟨W.heap.size, 0, none⟩) S S) (W.alloc (.cells (bytesC (List.replicate S 0)).toArray 5)) := fun W => make_bytes S _ W (by have := HS.out; unfold sizeN at this; omega) (by omega)
            have hl0 := b0.lt
            go_wp2_with fail
            have k0 := Blk.mk w1 5 (bytesC (List.replicate S 0)).toArray
            have g3 := gb_alloc w1 (.cells (bytesC (List.replicate S 0)).toArray 5) none
            generalize w1.alloc (.cells (bytesC (List.replicate S 0)).toArray 5) = W1 at k0 g3 ⊢
            replace b0 := b0.keep0 g3
            replace g0 := gb_trans g0 g3
            have hz0 : addsTo b 0 = List.replicate S 0 := by unfold addsTo; rw [HS.out]; rfl
            rw [← hz0] at k0
            have HG := Lib.hid g0
            clear hz0 g3 mk c00 c01 c02 hSw
            go_loopw [7, 8, 9] (fun v7 v8 v9 wr => ∃ k : Nat, k ≤ b.length ∧ v7 = .int .i64 k ∧ Blk wr w.heap.size 27 #[.slice ao b.length cap, .int .i64 t, .int .i64 a] ∧ Blk wr w1.heap.size 5 (bytesC (addsTo b k)).toArray ∧ Below w.heap.size w wr) (fun v _ _ _ => b.length - (intOf v).toNat)
            case atStart => exact ⟨0, by omega, rfl, b0, k0, gb_below g0⟩
            case round =>
              obtain ⟨k, hk, rfl, bf, bk, hB⟩ := hrel
              have c0 := bf.cell 0 rfl
              have hlen := addsTo_length b k
              rw [HS.out] at hlen
              clear k0 b0
              by_cases hkl : k < b.length
              · cases ao with
                | none => have := HN.out rfl; omega
                | some x =>
                  have d0 := (hB.cell (cell_lt (HC.out x rfl k _ (bools_at hkl)))).trans (HC.out x rfl k _ (bools_at hkl))
                  have hgd : b.getD k false = b[k] := by simp [List.getD, hkl]
                  cases hbk : b[k] with
                  | false =>
                    rw [hbk] at d0 hgd
                    have E := Lib.hid (addsTo_no hgd)
                    clear hbk hgd
                    go_wp2
                    go_roundw
                    case rel => exact ⟨k + 1, by omega, by go_num, bf, by rw [E.out]; exact bk, hB⟩
                    case measure => simp [intOf]; omega
                  | true =>
                    rw [hbk] at d0 hgd
                    have E := Lib.hid (addsTo_yes hgd)
                    clear hbk hgd
                    generalize addsTo b k = s at bk hlen E
                    obtain ⟨q, hq⟩ : ∃ q, k / 8 = q := ⟨_, rfl⟩
                    have hqS : q < S := by have := HS.out; unfold sizeN at this; omega
                    have hst : addAt s k = s.set q (UInt8.ofNat ((s.getD q 0).toNat + 2 ^ (k % 8))) := by unfold addAt; rw [hq]
                    have HST := Lib.hid hst
                    have e0 := bk.cell q (v := .int .u8 ((s.getD q 0).toNat : Nat)) (by rw [List.getElem?_toArray]; exact bytes_at (by omega))
                    have f0 := bk.free q
                    have e1 : IntKind.i64.wrap ((k : Int) / 8) = (q : Int) := by
                      rw [show (k : Int) / 8 = (q : Int) by omega]; exact IntWalk.i64_in _ (by omega)
                    have hm8 : k % 8 ≤ 7 := by omega
                    have hcb := (s.getD q 0).toNat_lt
                    generalize (s.getD q 0).toNat = c at *
                    have Hq := Lib.hid hq
                    clear hst hq
                    go_wp2_with fail
                    go_loop [8, 9] (fun v8 v9 => ∃ m u : Nat, m ≤ k % 8 ∧ v9 = .int .i64 m ∧ v8 = .int .u8 u ∧ u = 2 ^ m) (fun _ v => 8 - (intOf v).toNat)
                    case atStart => exact ⟨0, 1, by omega, rfl, rfl, rfl⟩
                    case round =>
                      obtain ⟨m, u, hmk, rfl, rfl, hu⟩ := hrel
                      have HU := Lib.hid hu
                      have hu1 : 1 ≤ u := by rw [hu]; exact Nat.pos_of_ne_zero (by simp)
                      have hu2 : u ≤ 128 := by rw [hu]; exact Nat.le_trans (Nat.pow_le_pow_right (by omega) (show m ≤ 7 by omega)) (by decide)
                      by_cases hlm : m < k % 8
                      · have hu3 : u ≤ 64 := by rw [hu]; exact Nat.le_trans (Nat.pow_le_pow_right (by omega) (show m ≤ 6 by omega)) (by decide)
                        clear hu
                        have hlm' : (m : Int) < (k : Int) % 8 := by omega
                        go_wp2
                        go_round
                        case rel => exact ⟨m + 1, u * 2, by omega, by go_num, by go_num, by rw [HU.out, Nat.pow_succ]⟩
                        case measure => simp [intOf]; omega
                      · have hmk2 : m = k % 8 := by omega
                        have hlm' : ¬ (m : Int) < (k : Int) % 8 := by omega
                        have hnew : Blk (wr.setCell ⟨w1.heap.size, q, none⟩ (.int .u8 (((c + u) % 256 : Nat) : Int))) w1.heap.size 5 (bytesC (addsTo b (k + 1))).toArray := by
                          rw [E.out, HST.out, ← hmk2, ← hu, ← bytes_setm]; exact bk.set q _
                        have HNw := Lib.hid hnew
                        obtain ⟨z, hz⟩ : ∃ z, (c + u) % 256 = z := ⟨_, rfl⟩
                        have hw : IntKind.u8.wrap ((c : Int) + (u : Int)) = (z : Int) := by
                          rw [← hz]; simp only [IntKind.wrap, IntKind.bits, IntKind.signed]; simp
                        have Hz := Lib.hid hz
                        have q2 : (0 : Int) ≤ (q : Int) := by omega
                        have q3 : (q : Int) < (S : Int) := by omega
                        have e5 : IntKind.i64.wrap (q : Int) = (q : Int) := IntWalk.i64_in _ (by omega)
                        clear hu hmk2 hnew hz
                        go_wp2
                        go_roundw
                        case rel => exact ⟨k + 1, by omega, by go_num, bf.keep (gb_set _ _ _ _ _) (ne_some (by omega)), by have := HNw.out; rw [Hz.out] at this; exact this, hB.setCell (p := ⟨w1.heap.size, q, none⟩) (by show w.heap.size ≤ w1.heap.size; omega) _⟩
                        case measure => simp [intOf]; omega
              · obtain rfl : k = b.length := by omega
                have hbits : addsTo b b.length = bitsTo b b.length := add_or b b.length (Nat.le_refl _)
                rw [hbits] at bk hlen
                have a1 := bf.cell 1 rfl
                have a2 := bf.cell 2 rfl
                clear hbits
                rcases may_cases Hmay.out with ⟨rfl, rfl⟩ | ⟨i, rfl, hib, hbi, ha0, ha1⟩
                · go_wp2
                  refine bodyPost_ret (two_row rfl _ _ _) rfl ⟨_, by rw [HP.out.1]; rfl, ?_, gb_of_below hB⟩
                  rw [HP.out.2]
                  unfold tailB
                  rw [if_pos rfl, List.append_nil]
                  exact bts_of_blk bk hlen
                · obtain ⟨an, rfl⟩ := Int.eq_ofNat_of_zero_le ha0
                  have hne : ((i : Int) == -1) = false := beq_eq_false_iff_ne.2 (by omega)
                  obtain ⟨i0, hi, hz0, hz1, hz2⟩ := info_parts Tryd.infoByte
                  have own : wr.ownsRow w.heap.size 5 1 (.slice (some ⟨w1.heap.size, 0, none⟩) S S) S (bytesC (bitsTo b b.length)) :=
                    ⟨by rw [show (bytesC (bitsTo b b.length)).length = (bitsTo b b.length).length by simp [bytesC], hlen, Nat.mul_one], .inr ⟨w1.heap.size, S, _, rfl, by omega, bk, Nat.le_refl _, by unfold maxLen; omega, by simp [bytesC, hlen], by rw [List.toList_toArray, Nat.mul_one]; exact List.take_of_length_le (by simp [bytesC, hlen])⟩⟩
                  have htail : tailB b (i : Nat) (an : Nat) = [UInt8.ofNat A, UInt8.ofNat (an / 256), UInt8.ofNat (an % 256)] := by
                    unfold tailB; rw [if_neg (by omega), HA.out]; rfl
                  have HTl := Lib.hid htail
                  have HLB := Lib.hid hlen
                  clear htail hlen hbi
                  go_wp2_with (at_builtin; go_must (refine wpList_append_own _ rfl _ _ 22 rfl w.heap.size 5 i0 (.int .u8 0) 1 1 Tryd.underlying22 hi hz0 hz1 hz2 rfl (by decide) _ _ _ rfl (own.alloc _) ⟨wr.heap.size, 0, none⟩ 3 3 [.int .u8 (A : Nat), .int .u8 ((an : Int) / 256), .int .u8 ((an : Int) % 256)] rfl rfl (cells3_new _ _ _ _ _) (one3 _ _ _) (by unfold maxLen; omega) (by omega) (by have := hB.size; simp; omega) ?_; intro v3 w3 own3 g3 _))
                  refine bodyPost_ret (two_row rfl _ _ _) rfl ⟨_, by rw [HP.out.1]; rfl, ?_, gb_app (gb_of_below hB) own (Nat.le_refl _) g3⟩
                  rw [HP.out.2, HTl.out]
                  show Sl 1 _ _ _ _
                  rw [show (bitsTo b b.length ++ [UInt8.ofNat A, UInt8.ofNat (an / 256), UInt8.ofNat (an % 256)]).length = S + 3 by simp [HLB.out]]
                  rw [bytes_app3 _ A (an / 256) (an % 256) (by omega) (by omega) (by omega)]
                  exact Sl.of_owns own3
end Go.Proofs.YtefpnhckplcfgaaDoor
