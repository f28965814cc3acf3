/-
  Texts of one layer, one behind the other, each with its own sentence; conditions: those that each law states.
-/
import Derived.RangeFuncWrites
import Derived.Lib.AppendStr
import Derived.Lib.AppendZeros
import Derived.Test.YtliiooldlooagaaGreatDoorZC4
import Derived.Test.YtliiooldlooagaaGreatDoorZJ6
import Derived.Test.YtliiooldlooagaaGreatDoorZO1
set_option linter.unusedSimpArgs false
set_option linter.unusedVariables false

/-
  The layer's small functions: Need, how a place lays and reads a number, a link's body, its pieces' iterator, Backward; over this seat's translation; conditions: those that each law states.
-/
namespace Go.Proofs.YtliiooldlooagaaGreatDoor.O12
open Go.RowKit J10
attribute [local go_sem] Oper.semAt_some
/-- How many pages, of any number. -/
def needZ (n : Int) : Int := if n < 1 ∨ 2000 < n then 0 else (n + 237) / 238
theorem needZ_nat {n : Nat} (h : n ≤ 2000) : needZ (n : Int) = (need n : Nat) := by
  unfold needZ need
  by_cases h0 : n = 0
  · subst h0; rw [if_pos (.inl (by omega))]; rfl
  · rw [if_neg (by omega)]; omega
theorem need_any (n : Int) (hn : In64 n) (w : World) : Calls Tryz.prog 10 #[.int .i64 n] w fun e w' => e = .returned (.int .i64 (needZ n)) ∧ w = w' := by
  obtain ⟨h1, h2⟩ := hn
  go_enter Tryz.func10, Tryz.ntmps10
  by_cases ha : n < 1
  · have hz : needZ n = 0 := if_pos (.inl ha)
    rw [hz]
    clear hz
    go_wp2
    go_ret
    exact ⟨rfl, rfl⟩
  · by_cases hb : 2000 < n
    · have hz : needZ n = 0 := if_pos (.inr hb)
      rw [hz]
      clear hz
      go_wp2
      go_ret
      exact ⟨rfl, rfl⟩
    · have hz : needZ n = (n + 237) / 238 := if_neg (by omega)
      have e1 : IntKind.i64.wrap (n + 238) = n + 238 := IntWalk.i64_in _ (by omega)
      have e2 : IntKind.i64.wrap (n + 238 - 1) = n + 238 - 1 := IntWalk.i64_in _ (by omega)
      have e3 : IntKind.i64.wrap ((n + 238 - 1).tdiv 238) = (n + 237) / 238 := by
        rw [Int.tdiv_eq_ediv_of_nonneg (by omega), show n + 238 - 1 = n + 237 by omega]
        exact IntWalk.i64_in _ (by omega)
      have HZ := Lib.hid hz
      clear hz
      go_wp2
      go_ret
      refine ⟨?_, rfl⟩
      rw [HZ.out]
      first | rfl | (congr 2; omega)
theorem or_i64 (a c : Nat) (ha : a < 256) (hc : c < 256) : bits .or .i64 ((a : Int) * 256) (c : Int) = ((a * 256 + c : Nat) : Int) := by
  have e1 : BitVec.ofInt 64 ((a : Int) * 256) = BitVec.ofNat 64 (a * 256) := by
    rw [show ((a : Int) * 256) = ((a * 256 : Nat) : Int) from by omega, BitVec.ofInt_natCast]
  have e2 : BitVec.ofInt 64 ((c : Int)) = BitVec.ofNat 64 c := BitVec.ofInt_natCast _ _
  have e3 : (a * 256 ||| c) = a * 256 + c := by
    have := Nat.shiftLeft_add_eq_or_of_lt (i := 8) (b := c) (by simpa using hc) a
    rw [Nat.shiftLeft_eq] at this
    simpa using this.symm
  show IntKind.i64.wrap (((BitVec.ofInt 64 ((a : Int) * 256) ||| BitVec.ofInt 64 (c : Int)).toNat : Nat) : Int) = _
  rw [e1, e2, BitVec.toNat_or, BitVec.toNat_ofNat, BitVec.toNat_ofNat]
  rw [Nat.mod_eq_of_lt (show a * 256 < 2 ^ 64 by omega), Nat.mod_eq_of_lt (show c < 2 ^ 64 by omega), e3]
  exact IntWalk.i64_in _ (by omega)
theorem Tryz.infoU8 : (Tryz.prog.info? 5).map (fun i => (i.zero, i.size, i.bytes)) = some (some (.int .u8 0), 1, 1) := by kernel_rfl
theorem u8_byte (q : Nat) (h : q < 256) (z : Int) (hz : z = (q : Int)) : IntKind.u8.wrap z = (((UInt8.ofNat q).toNat : Nat) : Int) := by
  subst hz
  rw [IntKind.wrap_u8', UInt8.toNat_ofNat']
  omega
theorem u8_low (q : Nat) : IntKind.u8.wrap (q : Int) = (((UInt8.ofNat (q % 256)).toNat : Nat) : Int) := by
  rw [IntKind.wrap_u8', UInt8.toNat_ofNat']
  omega
/-- The text of a row of bytes. -/
theorem own_str {w : World} {base g cap n : Nat} {l : List UInt8} (h : w.ownsRow base 5 1 (.slice (some ⟨g, 0, none⟩) n cap) n (bytesC l)) :
    (convert 59 9 (.slice (some ⟨g, 0, none⟩) n cap)).run Tryz.prog w = .ok (.string ⟨l.toArray⟩) w := by
  have hl : l.length = n := by have := h.1; unfold bytesC at this; simpa using this
  subst hl
  exact run_convert_bytes_back w 59 9 5 ⟨g, 0, none⟩ cap l Tryz.underlying59 Tryz.underlying5 Tryz.underlying9 (fun j hj => by
    rw [Addr.add_mid, Nat.zero_add, h.cellAt j (by omega)]
    simp [bytesC, hj])
theorem lay_any {w : World} {base g cap n : Nat} {l : List UInt8} (h : w.ownsRow base 5 1 (.slice (some ⟨g, 0, none⟩) n cap) n (bytesC l)) (h2 : 2 ≤ n) (page : Nat) (hp : page < 65536) :
    Calls Tryz.prog 54 #[.int .i64 0, .slice (some ⟨g, 0, none⟩) n cap, .int .i64 (page : Nat)] w fun e w' => e = .returned (.tuple #[]) ∧ w'.ownsRow base 5 1 (.slice (some ⟨g, 0, none⟩) n cap) n (bytesC ((l.set 0 (UInt8.ofNat (page / 256))).set 1 (UInt8.ofNat (page % 256)))) ∧ w.grownBy w' (some g) := by
  have hl : l.length = n := by have := h.1; unfold bytesC at this; simpa using this
  have c0 : w.cell? ⟨g, 0, none⟩ = some (.int .u8 ((l.getD 0 0).toNat : Nat)) := by rw [h.cellAt 0 (by omega)]; simp [bytesC, List.getD_eq_getElem?_getD, show 0 < l.length by omega]
  have c1 : w.cell? ⟨g, 1, none⟩ = some (.int .u8 ((l.getD 1 0).toNat : Nat)) := by rw [h.cellAt 1 (by omega)]; simp [bytesC, List.getD_eq_getElem?_getD, show 1 < l.length by omega]
  have f0 := h.frozenAt 0
  have f1 := h.frozenAt 1
  have s0 := h.stored 0 (.int .u8 ((UInt8.ofNat (page / 256)).toNat : Nat))
  have e0 : IntKind.u8.wrap ((page : Int) / 256) = (((UInt8.ofNat (page / 256)).toNat : Nat) : Int) := u8_byte _ (by omega) _ (by omega)
  have e1 : IntKind.u8.wrap (page : Int) = (((UInt8.ofNat (page % 256)).toNat : Nat) : Int) := u8_low page
  have S0 := Lib.hid s0
  obtain ⟨q0, hq0⟩ : ∃ q0, UInt8.ofNat (page / 256) = q0 := ⟨_, rfl⟩
  obtain ⟨q1, hq1⟩ : ∃ q1, UInt8.ofNat (page % 256) = q1 := ⟨_, rfl⟩
  rw [hq0] at e0 S0 ⊢
  rw [hq1] at e1 ⊢
  clear hq0 hq1 s0 h
  go_enter Tryz.func54, Tryz.ntmps54
  go_wp2
  go_end0
  obtain ⟨h1, g1⟩ := S0.out
  obtain ⟨h2, g2⟩ := h1.stored 1 (.int .u8 (q1.toNat : Nat))
  refine ⟨rfl, ?_, gb_trans g1 g2⟩
  have e : ((bytesC l).set 0 (.int .u8 (q0.toNat : Nat))).set 1 (.int .u8 (q1.toNat : Nat)) = bytesC ((l.set 0 q0).set 1 q1) := by
    unfold bytesC
    rw [List.map_set, List.map_set]
  rw [← e]
  exact h2
theorem nxt_at {b : ByteArray} (h : 2 < b.size) : nxt b = (b.get 0 (by omega)).toNat * 256 + (b.get 1 (by omega)).toNat := by
  unfold nxt
  have h0 : 0 < b.data.toList.length := by rw [Array.length_toList]; show 0 < b.size; omega
  have h1 : 1 < b.data.toList.length := by rw [Array.length_toList]; show 1 < b.size; omega
  rw [List.getD_eq_getElem?_getD, List.getD_eq_getElem?_getD, List.getElem?_eq_getElem h0, List.getElem?_eq_getElem h1]
  rfl
set_option maxHeartbeats 1000000 in
theorem readN_any (b : ByteArray) (h : 2 < b.size) (w : World) : Calls Tryz.prog 70 #[.int .i64 0, .string b] w fun e w' => e = .returned (.int .i64 (nxt b : Nat)) ∧ w.grownBy w' none := by
  have hx := nxt_at h
  have hl0 : 0 < b.size := by omega
  have hl1 : (1 : Int) < (b.size : Int) := by omega
  have hw1 : IntKind.i64.wrap 1 = 1 := IntWalk.i64_in _ (by omega)
  obtain ⟨c0, hc0⟩ : ∃ c0, b[0] = c0 := ⟨_, rfl⟩
  obtain ⟨c1, hc1⟩ : ∃ c1, b[1] = c1 := ⟨_, rfl⟩
  have hx' : nxt b = c0.toNat * 256 + c1.toNat := by rw [hx, ← hc0, ← hc1]; rfl
  have h0 := UInt8.toNat_lt c0
  have h1 := UInt8.toNat_lt c1
  have hw2 : IntKind.i64.wrap (c0.toNat : Int) = (c0.toNat : Int) := IntWalk.i64_in _ (by omega)
  have hw3 : IntKind.i64.wrap (c1.toNat : Int) = (c1.toNat : Int) := IntWalk.i64_in _ (by omega)
  have hw4 : IntKind.i64.wrap ((c0.toNat : Int) * 256) = (c0.toNat : Int) * 256 := IntWalk.i64_in _ (by omega)
  have hor := or_i64 c0.toNat c1.toNat (by omega) (by omega)
  have HX := Lib.hid hx'
  clear hx hx'
  go_enter Tryz.func70, Tryz.ntmps70
  go_wp2
  refine wp_region_noPanic ?_
  refine wp_region_held_drew (S := fun w' => w.grownBy w' none) (by kernel_rfl) (gb_drew _ _) (fun hHeld => ?_)
  refine wpAnyH_take (i := 0) (v := ?_) (List.getElem?_toArray.trans rfl) (by kernel_rfl) (by kernel_rfl) (by kernel_rfl) (fun _ _ _ h => h) (Or.inl ⟨by rfl, ?_⟩) hHeld ?_
  rotate_left
  · intro w' hSw; go_simp; try with_reducible rfl
  try simp only [Act.put, List.setIfInBounds_toArray, List.set_cons_zero, List.set_cons_succ]
  refine wpAnyH_take (i := 1) (v := ?_) (List.getElem?_toArray.trans rfl) (by kernel_rfl) (by kernel_rfl) (by kernel_rfl) (fun _ _ _ h => h) (Or.inl ⟨by rfl, ?_⟩) hHeld ?_
  rotate_left
  · intro w' hSw; go_simp; try with_reducible rfl
  try simp only [Act.put, List.setIfInBounds_toArray, List.set_cons_zero, List.set_cons_succ]
  refine wpAnyH_take (i := 2) (v := .int .u8 (c0.toNat : Nat)) (List.getElem?_toArray.trans rfl) (by kernel_rfl) (by kernel_rfl) (by kernel_rfl) (fun _ _ _ h => h) (Or.inl ⟨by rfl, ?_⟩) hHeld ?_
  · intro w' hSw; go_simp
  try simp only [Act.put, List.setIfInBounds_toArray, List.set_cons_zero, List.set_cons_succ]
  refine wpAnyH_take (i := 3) (v := .int .i64 (c0.toNat : Nat)) (List.getElem?_toArray.trans rfl) (by kernel_rfl) (by kernel_rfl) (by kernel_rfl) (fun _ _ _ h => h) (Or.inl ⟨by rfl, ?_⟩) hHeld ?_
  · intro w' hSw; go_simp
  try simp only [Act.put, List.setIfInBounds_toArray, List.set_cons_zero, List.set_cons_succ]
  refine wpAnyH_take (i := 4) (v := .int .i64 ((c0.toNat : Nat) * 256)) (List.getElem?_toArray.trans rfl) (by kernel_rfl) (by kernel_rfl) (by kernel_rfl) (fun _ _ _ h => h) (Or.inl ⟨by rfl, ?_⟩) hHeld ?_
  · intro w' hSw; go_simp
  try simp only [Act.put, List.setIfInBounds_toArray, List.set_cons_zero, List.set_cons_succ]
  refine wpAnyH_take (i := 5) (v := ?_) (List.getElem?_toArray.trans rfl) (by kernel_rfl) (by kernel_rfl) (by kernel_rfl) (fun _ _ _ h => h) (Or.inl ⟨by rfl, ?_⟩) hHeld ?_
  rotate_left
  · intro w' hSw; go_simp; try with_reducible rfl
  try simp only [Act.put, List.setIfInBounds_toArray, List.set_cons_zero, List.set_cons_succ]
  refine wpAnyH_take (i := 6) (v := ?_) (List.getElem?_toArray.trans rfl) (by kernel_rfl) (by kernel_rfl) (by kernel_rfl) (fun _ _ _ h => h) (Or.inl ⟨by rfl, ?_⟩) hHeld ?_
  rotate_left
  · intro w' hSw; go_simp; try with_reducible rfl
  try simp only [Act.put, List.setIfInBounds_toArray, List.set_cons_zero, List.set_cons_succ]
  refine wpAnyH_take (i := 7) (v := ?_) (List.getElem?_toArray.trans rfl) (by kernel_rfl) (by kernel_rfl) (by kernel_rfl) (fun _ _ _ h => h) (Or.inl ⟨by rfl, ?_⟩) hHeld ?_
  rotate_left
  · intro w' hSw; go_simp; try with_reducible rfl
  try simp only [Act.put, List.setIfInBounds_toArray, List.set_cons_zero, List.set_cons_succ]
  refine wpAnyH_take (i := 8) (v := .int .u8 (c1.toNat : Nat)) (List.getElem?_toArray.trans rfl) (by kernel_rfl) (by kernel_rfl) (by kernel_rfl) (fun _ _ _ h => h) (Or.inl ⟨by rfl, ?_⟩) hHeld ?_
  · intro w' hSw; go_simp
  try simp only [Act.put, List.setIfInBounds_toArray, List.set_cons_zero, List.set_cons_succ]
  refine wpAnyH_take (i := 9) (v := .int .i64 (c1.toNat : Nat)) (List.getElem?_toArray.trans rfl) (by kernel_rfl) (by kernel_rfl) (by kernel_rfl) (fun _ _ _ h => h) (Or.inl ⟨by rfl, ?_⟩) hHeld ?_
  · intro w' hSw; go_simp
  try simp only [Act.put, List.setIfInBounds_toArray, List.set_cons_zero, List.set_cons_succ]
  refine wpAnyH_take (i := 10) (v := .int .i64 (((c0.toNat * 256 + c1.toNat : Nat)) : Int)) (List.getElem?_toArray.trans rfl) (by kernel_rfl) (by kernel_rfl) (by kernel_rfl) (fun _ _ _ h => h) (Or.inl ⟨by rfl, ?_⟩) hHeld ?_
  · intro w' hSw; go_simp
  try simp only [Act.put, List.setIfInBounds_toArray, List.set_cons_zero, List.set_cons_succ]
  refine wpAnyH_take (i := 11) (v := ?_) (List.getElem?_toArray.trans rfl) (by kernel_rfl) (by kernel_rfl) (by kernel_rfl) (fun _ _ _ h => h) (Or.inl ⟨by rfl, ?_⟩) hHeld ?_
  rotate_left
  · intro w' hSw; go_simp; try with_reducible rfl
  try simp only [Act.put, List.setIfInBounds_toArray, List.set_cons_zero, List.set_cons_succ]
  refine wpAnyH_done (by kernel_rfl) ?_ _
  refine NoPanic.normal ?_
  go_wp2
  go_ret
  refine ⟨?_, hHeld⟩
  rw [HX.out]
  rfl
theorem row_form {w : World} {base size n : Nat} {e : TypeId} {v : Value} {xs : List Value} (h : w.ownsRow base e size v n xs) (hn : 0 < n) : ∃ g cap, v = .slice (some ⟨g, 0, none⟩) n cap := by
  rcases h.2 with ⟨_, h0⟩ | ⟨g, cap, _, hv, _⟩
  · omega
  · exact ⟨g, cap, hv⟩
/-- A link's body. -/
theorem body_any (next : Nat) (piece : ByteArray) (w : World) (hn : next < 65536) (hp : piece.size ≤ 2000) : Calls Tryz.prog 28 #[.agg #[.int .i64 (next : Nat), .string piece]] w fun e w' => e = .returned (.string (bodyB next piece.data.toList)) ∧ w.grownBy w' none := by
  obtain ⟨i0, hi, hz0, hz1, hz2⟩ := info_parts Tryz.infoU8
  go_enter Tryz.func28, Tryz.ntmps28
  go_wp2
  refine wp_letter (fun u => Blk u w.heap.size 66 #[.int .i64 (next : Nat), .string piece] ∧ w.grownBy u none) ⟨Blk.mk _ _ _, gb_alloc _ _ _⟩ ?_
  rintro u ⟨b0, g0⟩
  obtain ⟨w2, hmk, own2, g2⟩ := run_make_full (P := Tryz.prog) u.drew u.heap.size 59 5 i0 (.int .u8 0) 1 Tryz.underlying59 hi hz0 hz1 .i64 .i64 2 (by rw [hz2]; omega) (by unfold maxLen; omega) (Nat.le_refl _)
  have hmk' : (Instr.makeSlice 59 (.int .i64 2) (.int .i64 2)).run Tryz.prog u.drew = .ok (.slice (some ⟨u.heap.size, 0, none⟩) 2 2) w2 := hmk
  have own2' : w2.ownsRow u.heap.size 5 1 (.slice (some ⟨u.heap.size, 0, none⟩) 2 2) 2 (bytesC [0, 0]) := owns_cast own2 rfl (by rw [show (Value.int IntKind.u8 0).cells = #[.int .u8 0] from rfl, toList_madeCells_one]; rfl)
  obtain ⟨v3, w3, hap, own3, g3, hnil⟩ := Lib.run_append_own_string (P := Tryz.prog) w2 u.heap.size 59 9 59 5 i0 Tryz.underlying59 Tryz.underlying9 hi hz0 hz1 hz2 _ _ _ own2' piece (by unfold maxLen; omega) (by omega) g2.size
  have b2 := (b0.keep0 (gb_drew u none)).keep0 g2
  have b3 := b2.keep g3 (own_far own2' b0.lt)
  have G2 := gb_trans (gb_trans g0 (gb_drew u none)) g2
  have G3 := gb_own2 G2 own2' g0.size g3
  have hl3 : bytesC [0, 0] ++ Lib.strCells piece = bytesC (0 :: 0 :: piece.data.toList) := rfl
  rw [hl3] at own3
  refine wp_region_noPanic ?_
  refine wp_region_held_drew (S := fun w' => Blk w' w.heap.size 66 #[.int .i64 (next : Nat), .string piece]) (by kernel_rfl) (b0.keep0 (gb_drew u none)) (fun hHeld => ?_)
  refine wpAnyH_take (i := 1) (v := ?_) (List.getElem?_toArray.trans rfl) (by kernel_rfl) (by kernel_rfl) (by kernel_rfl) (fun _ _ _ h => h) (Or.inl ⟨by rfl, ?_⟩) hHeld ?_
  rotate_left
  · intro w' hSw; have e1 : w'.cell? ⟨w.heap.size, 1, none⟩ = some (.string piece) := hSw.cell 1 rfl; clear hSw; go_simp; try with_reducible rfl
  try simp only [Act.put, List.setIfInBounds_toArray, List.set_cons_zero, List.set_cons_succ]
  refine wpAnyH_take (i := 2) (v := ?_) (List.getElem?_toArray.trans rfl) (by kernel_rfl) (by kernel_rfl) (by kernel_rfl) (fun _ _ _ h => h) (Or.inl ⟨by rfl, ?_⟩) hHeld ?_
  rotate_left
  · intro w' hSw; have e1 : w'.cell? ⟨w.heap.size, 1, none⟩ = some (.string piece) := hSw.cell 1 rfl; clear hSw; go_simp; try with_reducible rfl
  try simp only [Act.put, List.setIfInBounds_toArray, List.set_cons_zero, List.set_cons_succ]
  refine wpAnyH_ready (rs := [0]) (by kernel_rfl) (by simp) ?_
  refine AllReadyH.cons (List.getElem?_toArray.trans rfl) (fun K hK => ?_) AllReadyH.nil
  go_simp
  refine hK.out _ _ (b2) (fun hHeld => ?_)
  clear hK K
  try simp only [Act.put, List.setIfInBounds_toArray, List.set_cons_zero, List.set_cons_succ]
  refine wpAnyH_ready (rs := [3]) (by kernel_rfl) (by simp) ?_
  refine AllReadyH.cons (List.getElem?_toArray.trans rfl) (fun K hK => ?_) AllReadyH.nil
  refine Lib.wp_append_run _ _ _ _ _ rfl _ _ rfl rfl _ _ hap ?_
  refine hK.out _ _ (b3) (fun hHeld => ?_)
  clear hK K
  try simp only [Act.put, List.setIfInBounds_toArray, List.set_cons_zero, List.set_cons_succ]
  refine wpAnyH_take (i := 4) (v := ?_) (List.getElem?_toArray.trans rfl) (by kernel_rfl) (by kernel_rfl) (by kernel_rfl) (fun _ _ _ h => h) (Or.inl ⟨by rfl, ?_⟩) hHeld ?_
  rotate_left
  · intro w' hSw; have e1 : w'.cell? ⟨w.heap.size, 1, none⟩ = some (.string piece) := hSw.cell 1 rfl; clear hSw; go_simp; try with_reducible rfl
  try simp only [Act.put, List.setIfInBounds_toArray, List.set_cons_zero, List.set_cons_succ]
  refine wpAnyH_done (by kernel_rfl) ?_ _
  refine NoPanic.normal ?_
  obtain ⟨g, cap, rfl⟩ := row_form own3 (by omega)
  have hL := lay_any own3 (by omega) next hn
  have HL := Lib.hid hL
  have HG := Lib.hid G3
  have HO := Lib.hid own3
  have c0 := b3.cell 0 rfl
  have hgb : w.heap.size ≤ g := Nat.le_trans g0.size (own3.lt g rfl).1
  clear hL G3 own3 hap hmk hmk' own2 own2' hHeld hnil g2 G2 b0 b2 hl3 g3
  go_wp2_with (first
    | (go_at_call 54; (with_reducible refine HL.out.mono ?_); rintro e w4 ⟨rfl, own4, g4⟩; have hcv := own_str own4; have g4 := Lib.hid g4)
    | fail)
  go_ret
  refine ⟨rfl, gb_step HG.out g4.out hgb⟩
end Go.Proofs.YtliiooldlooagaaGreatDoor.O12

/-
  The iterators of the layer: a text's pieces from the last one to the first one, and slices.Backward; over this seat's translation; conditions: those that each law states.
-/
namespace Go.Proofs.YtliiooldlooagaaGreatDoor.O12
open Go.RowKit Go.Shelf J10
attribute [local go_sem] Oper.semAt_some
/-- The piece i of a text, and the first k pieces from the last one on. -/
abbrev Pc := { x : ByteArray // x.size ≤ 238 }
def pieceAt (s : ByteArray) (i : Nat) : Pc := ⟨s.extract (i * 238) (min ((i + 1) * 238) s.size), by simp; omega⟩
def preL (s : ByteArray) (k : Nat) : List Pc := (List.range k).map fun j => pieceAt s (need s.size - 1 - j)
theorem preL_length (s : ByteArray) (k : Nat) : (preL s k).length = k := by simp [preL]
theorem preL_snoc (s : ByteArray) (k : Nat) : preL s (k + 1) = preL s k ++ [pieceAt s (need s.size - 1 - k)] := by simp [preL, List.range_succ]
theorem preL_end {s : ByteArray} {k : Nat} {pre : List Pc} {x : Pc} (h : pre ++ [x] = preL s k) : pre = preL s pre.length ∧ x = pieceAt s (need s.size - 1 - pre.length) ∧ pre.length + 1 = k := by
  have hl : pre.length + 1 = k := by
    have := congrArg List.length h
    rw [preL_length] at this
    simpa using this
  subst hl
  rw [preL_snoc] at h
  obtain ⟨h1, h2⟩ := List.append_inj' h rfl
  exact ⟨h1, by simpa using h2, rfl⟩
theorem pieces_any (s : ByteArray) (w : World) : Calls Tryz.prog 26 #[.string s] w fun e w' => e = .returned (.func (.func 52) #[] #[.pointer (some ⟨w.heap.size, 0, none⟩)]) ∧ w' = w.alloc (.cells #[.string s] 9) := by
  go_enter Tryz.func26, Tryz.ntmps26
  go_wp2
  go_ret
  exact ⟨rfl, rfl⟩
set_option maxRecDepth 100000 in
set_option maxHeartbeats 1000000 in
theorem pieces1_in (n : Nat) (hn : 2 ≤ n) (l Bn : Nat) (s : ByteArray) (hs : s.size ≤ 2000) (J Jx : List Pc → World → Prop)
    (hY : ∀ pre x W, J pre W → pre.length < 10 → YieldAt Fence.wide (n - 1) Tryz.prog l #[.string x.1] W fun e W' =>
      (e = .returned (.bool true) ∧ J (pre ++ [x]) W' ∧ C7.SameCell Bn W W') ∨ (e = .returned (.bool false) ∧ Jx (pre ++ [x]) W'))
    (W : World) (hBn : W.cell? ⟨Bn, 0, none⟩ = some (.string s)) (h0 : J [] W) :
    CallsIn Fence.wide n Tryz.prog 52 #[.func (.yield l) #[] #[], .pointer (some ⟨Bn, 0, none⟩)] W fun e W' => (∃ v, e = .returned v) ∧
      ((∃ ys, ys = preL s (need s.size) ∧ J ys W') ∨ (∃ pre, (∃ k, k ≤ need s.size ∧ pre = preL s k) ∧ Jx pre W')) := by
  have hm9 := need_le hs
  have hmz := needZ_nat hs
  have hmd : need s.size * 238 < s.size + 238 ∧ s.size ≤ need s.size * 238 := by unfold need; omega
  obtain ⟨m, hm⟩ : ∃ m, need s.size = m := ⟨_, rfl⟩
  rw [hm] at hm9 hmz hmd ⊢
  have HM := Lib.hid hm
  clear hm
  have HN := Lib.hid (fun w => need_any (s.size : Int) (show In64 (s.size : Int) from ⟨by omega, by omega⟩) w)
  refine callsIn_of_wp Tryz.func52 rfl trivial ?_ rfl
  simp only [Tryz.ntmps52, List.size_toArray, List.length_cons, List.length_nil, Nat.reduceAdd, Nat.reduceSub, Array.replicate_succ, Array.replicate_zero, List.push_toArray, List.append_toArray, List.nil_append, List.cons_append]
  gi_wp2_with (refine ⟨trivial, fun _ => by omega, ?_⟩; gi_at_call 10; (with_reducible refine (callsIn_wide.2 (HN.out _)).mono ?_); rintro e w' ⟨rfl, rfl⟩)
  gi_loopw [3] (fun i wr => ∃ k j : Nat, i = .int .i64 (j : Nat) ∧ k + j = m ∧ wr.cell? ⟨Bn, 0, none⟩ = some (.string s) ∧ J (preL s k) wr)
    (fun i _ => (intOf i).toNat)
  case atStart => exact ⟨0, m, rfl, by omega, hBn, h0⟩
  case round =>
    obtain ⟨k, j, rfl, hkj, hcell, hJs⟩ := hrel
    clear hBn h0
    by_cases hlt : 0 < j
    · obtain ⟨q, rfl⟩ : ∃ q, j = q + 1 := ⟨j - 1, by omega⟩
      have e1 : IntKind.i64.wrap (((q + 1 : Nat) : Int) - 1) = (q : Int) := by rw [show (((q + 1 : Nat) : Int) - 1) = (q : Int) by omega]; exact IntWalk.i64_in _ (by omega)
      have e2 : IntKind.i64.wrap ((q : Int) * 238) = ((q * 238 : Nat) : Int) := by rw [show (q : Int) * 238 = ((q * 238 : Nat) : Int) by omega]; exact IntWalk.i64_in _ (by omega)
      have e3 : IntKind.i64.wrap (((q + 1 : Nat) : Int) * 238) = (((q + 1) * 238 : Nat) : Int) := by rw [show ((q + 1 : Nat) : Int) * 238 = (((q + 1) * 238 : Nat) : Int) by omega]; exact IntWalk.i64_in _ (by omega)
      obtain ⟨x, hx⟩ : ∃ x, pieceAt s (need s.size - 1 - k) = x := ⟨_, rfl⟩
      have hxq : x.1 = s.extract (q * 238) (min (((q : Int) + 1) * 238) (s.size : Int)).toNat := by rw [← hx, HM.out, show m - 1 - k = q by omega, show (min (((q : Int) + 1) * 238) (s.size : Int)).toNat = min ((q + 1) * 238) s.size by omega]; rfl
      obtain ⟨fn, tmps, assign, body, hy, hR⟩ := hY (preL s k) x wr hJs (by rw [preL_length]; omega)
      rw [hxq] at hy
      have hsn := preL_snoc s k
      rw [hx] at hsn
      have HSn := Lib.hid hsn
      try dsimp only at hy
      clear hx hsn hY
      gi_wp2
      refine ⟨fun _ => by omega, hR.mono ?_⟩
      rintro e W3 (⟨rfl, hJ3, hk3⟩ | ⟨rfl, hJx3⟩)
      · have hcell3 : W3.cell? ⟨Bn, 0, none⟩ = some (.string s) := hk3 _ hcell
        gi_wp2
        go_roundw
        case rel => exact ⟨k + 1, q, by go_num, by omega, hcell3, by rw [HSn.out]; exact hJ3⟩
        case measure => simp [intOf]
      · gi_wp2
        refine bodyPost_ret (results_none rfl _ _ _) rfl ?_
        exact ⟨⟨_, rfl⟩, .inr ⟨_, ⟨k + 1, by omega, rfl⟩, by rw [HSn.out]; exact hJx3⟩⟩
    · obtain rfl : j = 0 := by omega
      gi_wp2
      go_end0
      exact ⟨⟨_, rfl⟩, .inl ⟨preL s k, by rw [show k = m by omega], hJs⟩⟩
theorem pieces_stops (n : Nat) (hn : 2 ≤ n) (Bn : Nat) (s : ByteArray) (hs : s.size ≤ 2000) (w : World) (hBn : Bn < w.heap.size)
    (hc : w.cell? ⟨Bn, 0, none⟩ = some (.string s)) :
    SeqStopsK Fence.wide n Tryz.prog 52 #[.pointer (some ⟨Bn, 0, none⟩)] (fun x : Pc => #[Value.string x.1]) (C7.SameCell Bn) (fun ys => ys = preL s (need s.size)) (fun pre => ∃ k, k ≤ need s.size ∧ pre = preL s k) 10 w := fun l J Jx W hW _ _ hY h0 =>
  pieces1_in n hn l Bn s hs J Jx hY W ((hW.cell (p := ⟨Bn, 0, none⟩) hBn).trans hc) h0
theorem backward_any (ao : Option Addr) (n cap : Nat) (w : World) : Calls Tryz.prog 51 #[.slice ao n cap] w fun e w' => e = .returned (.func (.func 88) #[] #[.pointer (some ⟨w.heap.size, 0, none⟩)]) ∧ w' = w.alloc (.cells #[.slice ao n cap] 40) := by
  go_enter Tryz.func51, Tryz.ntmps51
  go_wp2
  go_ret
  exact ⟨rfl, rfl⟩
/-- Numbers as cells. -/
def intC (l : List Int) : List Value := l.map (Value.int .i64)
theorem intC_at {l : List Int} {j : Nat} (h : j < l.length) : (intC l)[j]? = some (.int .i64 (l.getD j 0)) := by simp [intC, List.getD_eq_getElem?_getD, h]
/-- A slice of numbers, and the box that holds it. -/
def HeldI (Bn : Nat) (v : Value) (l : List Int) (W : World) : Prop := W.cell? ⟨Bn, 0, none⟩ = some v ∧ Sl 1 W v l.length (intC l)
def KeepI (Bn : Nat) (v : Value) (l : List Int) (W W' : World) : Prop := HeldI Bn v l W → HeldI Bn v l W'
theorem keepI_t {Bn : Nat} {v : Value} {l : List Int} {X Y Z : World} (h : KeepI Bn v l X Y) (k : KeepI Bn v l Y Z) : KeepI Bn v l X Z := fun a => k (h a)
theorem keepI_b {Bn : Nat} {v : Value} {l : List Int} {w : World} (W : World) (q : Nat) (o o' : Obj) (_ : w.heap.size ≤ q) (h : W.heap[q]? = some o) (ho : o.isCells = false) (_ : o.isWalk = false) : KeepI Bn v l W (W.putObj q o') := by
  rintro ⟨h1, ao, cap, h2, h3, h4, h5, h6⟩
  have kc : ∀ {p u}, W.cell? p = some u → (W.putObj q o').cell? p = some u := fun hv => cell_kept hv (grownBy_putObj' W q o') (fun r e => by cases e; exact ⟨o, h, ho⟩)
  exact ⟨kc h1, ao, cap, h2, h3, h4, h5, fun a e j u hj => kc (h6 a e j u hj)⟩
def backL (l : List Int) (k : Nat) : List (Int × Int) := (List.range k).map fun j => (((l.length - 1 - j : Nat) : Int), l.reverse.getD j 0)
theorem backL_length (l : List Int) (k : Nat) : (backL l k).length = k := by simp [backL]
theorem backL_snoc (l : List Int) (k : Nat) : backL l (k + 1) = backL l k ++ [(((l.length - 1 - k : Nat) : Int), l.reverse.getD k 0)] := by simp [backL, List.range_succ]
theorem backL_end {l : List Int} {k : Nat} {pre : List (Int × Int)} {x : Int × Int} (h : pre ++ [x] = backL l k) : pre = backL l pre.length ∧ x.2 = l.reverse.getD pre.length 0 ∧ pre.length + 1 = k := by
  have hl : pre.length + 1 = k := by
    have := congrArg List.length h
    rw [backL_length] at this
    simpa using this
  subst hl
  rw [backL_snoc] at h
  obtain ⟨h1, h2⟩ := List.append_inj' h rfl
  refine ⟨h1, ?_, rfl⟩
  rw [(List.cons.inj h2).1]
theorem rev_at (l : List Int) {k q : Nat} (h : k + (q + 1) = l.length) : l.getD q 0 = l.reverse.getD k 0 := by
  rw [List.getD_eq_getElem?_getD, List.getD_eq_getElem?_getD, List.getElem?_reverse (by omega), show l.length - 1 - k = q by omega]
set_option maxRecDepth 100000 in
set_option maxHeartbeats 1000000 in
theorem backward1_in (n : Nat) (hn : 1 ≤ n) (q0 Bn : Nat) (v : Value) (l : List Int) (hl9 : l.length ≤ 1000) (J Jx : List (Int × Int) → World → Prop)
    (hY : ∀ pre x W, J pre W → pre.length < l.length + 1 → YieldAt Fence.wide (n - 1) Tryz.prog q0 #[.int .i64 x.1, .int .i64 x.2] W fun e W' =>
      (e = .returned (.bool true) ∧ J (pre ++ [x]) W' ∧ KeepI Bn v l W W') ∨ (e = .returned (.bool false) ∧ Jx (pre ++ [x]) W'))
    (W : World) (hB : HeldI Bn v l W) (h0 : J [] W) :
    CallsIn Fence.wide n Tryz.prog 88 #[.func (.yield q0) #[] #[], .pointer (some ⟨Bn, 0, none⟩)] W fun e W' => (∃ v, e = .returned v) ∧
      ((∃ ys, ys = backL l l.length ∧ J ys W') ∨ (∃ pre, (∃ k, k ≤ l.length ∧ pre = backL l k) ∧ Jx pre W')) := by
  have HB := Lib.hid hB
  obtain ⟨hc, ao, cap, rfl, _, _, _, _⟩ := hB
  obtain ⟨m, hm⟩ : ∃ m, l.length = m := ⟨_, rfl⟩
  have HM := Lib.hid hm
  rw [hm] at hc hl9 ⊢
  clear hm
  refine callsIn_of_wp Tryz.func88 rfl trivial ?_ rfl
  simp only [Tryz.ntmps88, List.size_toArray, List.length_cons, List.length_nil, Nat.reduceAdd, Nat.reduceSub, Array.replicate_succ, Array.replicate_zero, List.push_toArray, List.append_toArray, List.nil_append, List.cons_append]
  have e0 : IntKind.i64.wrap ((m : Int) - 1) = (m : Int) - 1 := IntWalk.i64_in _ (by omega)
  gi_wp2
  gi_loopw [3] (fun i wr => ∃ k j : Nat, i = .int .i64 ((j : Int) - 1) ∧ k + j = m ∧ HeldI Bn (.slice ao l.length cap) l wr ∧ J (backL l k) wr)
    (fun i _ => (intOf i + 1).toNat)
  case atStart => exact ⟨0, m, rfl, by omega, HB.out, h0⟩
  case round =>
    obtain ⟨k, j, rfl, hkj, hB, hJs⟩ := hrel
    clear hc h0
    by_cases hlt : 0 < j
    · obtain ⟨q, rfl⟩ : ∃ q, j = q + 1 := ⟨j - 1, by omega⟩
      have HB1 := Lib.hid hB
      obtain ⟨hc, ao', cap', hv, _, _, hno, hx⟩ := hB
      cases hv
      have hlq : q < l.length := by rw [HM.out]; omega
      cases ao with
      | none => have := (hno rfl).1; omega
      | some ad =>
        have c0 := hx ad rfl q _ (intC_at hlq)
        rw [rev_at l (k := k) (by rw [HM.out]; omega)] at c0
        rw [HM.out] at hc
        have hsn := backL_snoc l k
        obtain ⟨x, hxe⟩ : ∃ x, l.reverse.getD k 0 = x := ⟨_, rfl⟩
        rw [hxe] at c0 hsn
        have e1 : ((q + 1 : Nat) : Int) - 1 = (q : Int) := by omega
        have e2 : ((l.length - 1 - k : Nat) : Int) = (q : Int) := by rw [HM.out]; omega
        rw [e2] at hsn
        rw [e1]
        have e3 : IntKind.i64.wrap ((q : Int) - 1) = (q : Int) - 1 := IntWalk.i64_in _ (by omega)
        obtain ⟨fn, tmps, assign, body, hy, hR⟩ := hY (backL l k) ((q : Int), x) wr hJs (by rw [backL_length]; have := HM.out; omega)
        have HSn := Lib.hid hsn
        clear hsn hY hxe hno hx
        gi_wp2
        refine hR.mono ?_
        rintro e W3 (⟨rfl, hJ3, hk3⟩ | ⟨rfl, hJx3⟩)
        · have hB3 := hk3 HB1.out
          gi_wp2
          go_roundw
          case rel => exact ⟨k + 1, q, by go_num, by omega, hB3, by rw [HSn.out]; exact hJ3⟩
          case measure => simp [intOf]
        · gi_wp2
          refine bodyPost_ret (results_none rfl _ _ _) rfl ?_
          exact ⟨⟨_, rfl⟩, .inr ⟨_, ⟨k + 1, by omega, rfl⟩, by rw [HSn.out]; exact hJx3⟩⟩
    · obtain rfl : j = 0 := by omega
      gi_wp2
      go_end0
      exact ⟨⟨_, rfl⟩, .inl ⟨backL l k, by rw [show k = m by omega], hJs⟩⟩
theorem heldI_below {Bn : Nat} {v : Value} {l : List Int} {w W : World} (h : HeldI Bn v l w) (hb : Below w.heap.size w W) : HeldI Bn v l W := by
  have kc : ∀ {p u}, w.cell? p = some u → W.cell? p = some u := fun {p u} hv => by
    have hlt : p.block < w.heap.size := by
      rcases Nat.lt_or_ge p.block w.heap.size with h | h
      · exact h
      · simp [World.cell?, Array.getElem?_eq_none h] at hv
    exact (hb.cell hlt).trans hv
  obtain ⟨h1, ao, cap, h2, h3, h4, h5, h6⟩ := h
  exact ⟨kc h1, ao, cap, h2, h3, h4, h5, fun a e j u hj => kc (h6 a e j u hj)⟩
theorem backward_stops (n : Nat) (hn : 1 ≤ n) (Bn : Nat) (v : Value) (l : List Int) (hl : l.length ≤ 1000) (w : World) (hB : HeldI Bn v l w) :
    SeqStopsK Fence.wide n Tryz.prog 88 #[.pointer (some ⟨Bn, 0, none⟩)] (fun x : Int × Int => #[Value.int .i64 x.1, .int .i64 x.2]) (KeepI Bn v l) (fun ys => ys = backL l l.length) (fun pre => ∃ k, k ≤ l.length ∧ pre = backL l k) (l.length + 1) w := fun q0 J Jx W hW _ _ hY h0 =>
  backward1_in n hn q0 Bn v l hl J Jx hY W (heldI_below hB hW) h0
end Go.Proofs.YtliiooldlooagaaGreatDoor.O12

/-
  A transaction that goes on, as one saying; what its Read answers, of any page; over this seat's translation; conditions: those that each law states.
-/
namespace Go.Proofs.YtliiooldlooagaaGreatDoor.O12
open Go.RowKit Go.Maps J10
/-- What is like a pager, but for how often its disk was used. -/
def Gd (g g' : Pg) : Prop := ∃ s, g' = { g with d := s } ∧ s.secs = g.d.secs ∧ s.armed = g.d.armed
theorem Gd.refl (g : Pg) : Gd g g := ⟨g.d, rfl, rfl, rfl⟩
theorem Gd.trans {a b c : Pg} (h : Gd a b) (k : Gd b c) : Gd a c := by
  obtain ⟨s, rfl, h1, h2⟩ := h
  obtain ⟨s', rfl, k1, k2⟩ := k
  exact ⟨s', rfl, k1.trans h1, k2.trans h2⟩
/-- The blocks of a transaction, and of its pager. -/
def FX (F : Nat → Prop) (y : Bx) (i : Nat) : Prop := F i ∨ i = y.x ∨ i = y.tb ∨ i = y.mb ∨ i = y.bm
/-- A transaction that goes on. -/
def Live (w : World) (base p : Nat) (F : Nat → Prop) (y : Bx) (n : Nat) (g0 : Pg) (V V' : Pgs) (N z : Nat) : Prop :=
  ∃ k g T, k.p = p ∧ (∀ i, footG k i → F i) ∧ Gd g0 g ∧ TxV w base k y n g T ∧ Over g T V V' N ∧ M6.leftF T.m = z
section
variable {w w' : World} {base p : Nat} {F : Nat → Prop} {y : Bx} {n : Nat} {g0 : Pg} {V V' : Pgs} {N z : Nat}
theorem Live.kp {G : Nat → Prop} (h : Live w base p F y n g0 V V' N z) (e : D5.Kp G w w') (hG : ∀ i, FX F y i → ¬ G i) : Live w' base p F y n g0 V V' N z := by
  obtain ⟨k, g, T, h1, h2, h3, h4, h5, h6⟩ := h
  exact ⟨k, g, T, h1, h2, h3, h4.frame e (fun i hi => hG i (hi.imp (h2 i) id)), h5, h6⟩
theorem Live.keep0 (h : Live w base p F y n g0 V V' N z) (e : w.grownBy w' none) : Live w' base p F y n g0 V V' N z :=
  h.kp (G := fun _ => False) (D5.Kp.of0 e) (fun _ _ h => h)
theorem Live.more (h : Live w base p F y n g0 V V' N z) {M : Nat} (hM : N ≤ M) : Live w base p F y n g0 V V' M z := by
  obtain ⟨k, g, T, h1, h2, h3, h4, h5, h6⟩ := h
  exact ⟨k, g, T, h1, h2, h3, h4, ⟨⟨h5.st.sto, h5.st.roots, h5.st.off, h5.st.pend, h5.st.ok.more hM, h5.st.dead, h5.st.re⟩, h5.tx⟩, h6⟩
theorem Live.lt (h : Live w base p F y n g0 V V' N z) : y.x < w.heap.size ∧ y.tb < w.heap.size ∧ y.mb < w.heap.size ∧ y.bm < w.heap.size := by
  obtain ⟨k, g, T, h1, h2, h3, h4, h5, h6⟩ := h
  exact ⟨h4.lt _ (.inr (.inl rfl)), h4.lt _ (.inr (.inr (.inl rfl))), h4.lt _ (.inr (.inr (.inr (.inl rfl)))), h4.lt _ (.inr (.inr (.inr (.inr rfl))))⟩
/-- A page that a transaction has may be. -/
theorem over_page {g : Pg} {T : Tr} (o : Over g T V V' N) {q : Int} {kd : Nat} {b : ByteArray} (hv : V' q = some (kd, b)) : 1 ≤ kd ∧ kd ≤ 254 ∧ b.size ≤ 240 := by
  have hp := o.isPage (p := q) (by rw [hv]; exact fun e => by cases e)
  obtain ⟨j, hj, rfl⟩ := isPage_cases hp
  rcases o.tx.page j hj with ⟨s, d, _, _, _, _, _, kd', b', e, h1, h2, h3, _⟩ | ⟨_, _, e⟩ | ⟨_, _, _, e⟩
  · rw [hv] at e; cases e; exact ⟨h1, h2, h3⟩
  · rw [hv] at e; cases e
  · rw [hv] at e
    rcases o.st.sto.page j hj with ⟨_, e2⟩ | ⟨_, kd', b', e2, h1, h2, h3, _⟩
    · rw [← e] at e2; cases e2
    · rw [← e] at e2; cases e2; exact ⟨h1, h2, h3⟩
theorem lacks_over {x : Nat} (h : OverB w x) (q : Int) : Calls Tryz.prog 44 #[.pointer (some ⟨x, 0, none⟩), .int .i64 q] w fun e w' => e = .returned (.int .i64 22) ∧ w = w' := by
  go_enter Tryz.func44, Tryz.ntmps44
  go_wp2_with (go_at_call 29; (with_reducible refine (refuses_over h).mono ?_); rintro e w' ⟨rfl, rfl⟩)
  go_ret
  exact ⟨rfl, rfl⟩
theorem read_gone {x : Nat} (h : OverB w x) (q : Int) : Calls Tryz.prog 71 #[.pointer (some ⟨x, 0, none⟩), .int .i64 q] w fun e w' => e = .returned (.tuple #[.int .i64 0, .string noE, .int .i64 22]) ∧ w.grownBy w' none := by
  go_enter Tryz.func71, Tryz.ntmps71
  go_wp2_with (go_at_call 44; (with_reducible refine (lacks_over h q).mono ?_); rintro e w' ⟨rfl, rfl⟩)
  go_ret3
  exact ⟨rfl, gb_refl _ _⟩
theorem read_nilT (q : Int) (w : World) : Calls Tryz.prog 71 #[.pointer none, .int .i64 q] w fun e w' => e = .returned (.tuple #[.int .i64 0, .string noE, .int .i64 1]) ∧ w.grownBy w' none := by
  go_enter Tryz.func71, Tryz.ntmps71
  go_wp2_with (go_at_call 44; (with_reducible refine (lacks_nil q _).mono ?_); rintro e w' ⟨rfl, rfl⟩)
  go_ret3
  exact ⟨rfl, gb_refl _ _⟩
theorem read_none {k : Bk} {g : Pg} {T : Tr} (h : TxV w base k y n g T) (hd : g.dead = false) {q : Int} (h0 : T9.getF T.t q = 0) : Calls Tryz.prog 71 #[.pointer (some ⟨y.x, 0, none⟩), .int .i64 q] w fun e w' => e = .returned (.tuple #[.int .i64 0, .string noE, .int .i64 13]) ∧ w.grownBy w' none := by
  have HL := Lib.hid (lacks_yes h hd q h0)
  clear h h0
  go_enter Tryz.func71, Tryz.ntmps71
  go_wp2_with (go_at_call 44; (with_reducible refine HL.out.mono ?_); rintro e w' ⟨rfl, rfl⟩)
  go_ret3
  exact ⟨rfl, gb_refl _ _⟩
/-- A page that it wrote. -/
theorem sealed_own {k : Bk} {g : Pg} {T : Tr} (h : TxV w base k y n g T) {q : Int} (hp : In64 q) {s : Nat} {d : ByteArray} (hX : T.X q = some (s, d)) :
    Calls Tryz.prog 101 #[.pointer (some ⟨y.x, 0, none⟩), .int .i64 q] w fun e w' => e = .returned (.tuple #[.string d, .int .i64 0]) ∧ w.grownBy w' none := by
  obtain ⟨c0, c1, c2, c3, c4⟩ := h.cells
  have hlt := h.blk.lt
  have hrun : (Instr.lookup 72 (.map (some y.bm)) (.int .i64 q) true).run Tryz.prog w = .ok (.tuple #[.agg #[.int .i64 (s : Nat), .string d], .bool true]) w := h.txt.lookYes pairW hp hX
  clear h hX
  go_enter Tryz.func101, Tryz.ntmps101
  go_wp2
  go_ret2
  exact ⟨rfl, gb_alloc _ _ _⟩
theorem read_own {k : Bk} {g : Pg} {T : Tr} (h : TxV w base k y n g T) (hd : g.dead = false) {q : Int} (hp : In64 q) {s : Nat} {kd : Nat} {b : ByteArray} (hX : T.X q = some (s, sealB kd b)) (h0 : T9.getF T.t q ≠ 0) (h1 : 1 ≤ kd) (h2 : kd ≤ 254) (h3 : b.size ≤ 240) :
    Calls Tryz.prog 71 #[.pointer (some ⟨y.x, 0, none⟩), .int .i64 q] w fun e w' => e = .returned (.tuple #[.int .i64 (kd : Nat), .string b, .int .i64 0]) ∧ w.grownBy w' none := by
  have HS := Lib.hid (sealed_own h hp hX)
  have HO := Lib.hid (fun w => open_sealB h1 (by omega : kd ≤ 255) h3 w)
  have HL := Lib.hid (lacks_no h hd q h0)
  obtain ⟨d, hde⟩ : ∃ d, sealB kd b = d := ⟨_, rfl⟩
  rw [hde] at HS HO
  clear h hX h0 hde
  go_enter Tryz.func71, Tryz.ntmps71
  go_wp2_with (first
    | (go_at_call 44; (with_reducible refine HL.out.mono ?_); rintro e w' ⟨rfl, rfl⟩)
    | (go_at_call 101; (with_reducible refine HS.out.mono ?_); rintro e w1 ⟨rfl, g1⟩)
    | (go_at_call 102; (with_reducible refine (HO.out _).mono ?_); rintro e w2 ⟨rfl, g2⟩))
  go_ret3
  exact ⟨rfl, gb_trans g1 g2⟩
/-- What Read answers of any page. -/
def readE (V : Pgs) (q : Int) : Ending := match V q with
  | some (kd, b) => .returned (.tuple #[.int .i64 (kd : Nat), .string b, .int .i64 0])
  | none => .returned (.tuple #[.int .i64 0, .string noE, .int .i64 13])
def ReadL (w : World) (base p : Nat) (F : Nat → Prop) (y : Bx) (n : Nat) (g0 : Pg) (V V' : Pgs) (N z : Nat) (q : Int) (e : Ending) (w' : World) : Prop :=
  e = readE V' q ∧ Live w' base p F y n g0 V V' (N + 1) z ∧ D5.Kp F w w'
theorem read_live (h : Live w base p F y n g0 V V' N z) (ha : g0.d.armed = false) (hN : N ≤ 880000) {q : Int} (hq : In64 q) :
    Calls Tryz.prog 71 #[.pointer (some ⟨y.x, 0, none⟩), .int .i64 q] w (ReadL w base p F y n g0 V V' N z q) := by
  have hL := h
  obtain ⟨k, g, T, h1, h2, h3, h4, h5, h6⟩ := h
  have same : ∀ w', w.grownBy w' none → Live w' base p F y n g0 V V' (N + 1) z ∧ D5.Kp F w w' := fun w' g => ⟨(hL.keep0 g).more (by omega), D5.Kp.of0 g⟩
  cases hv : V' q with
  | none =>
    refine (read_none h4 h5.st.dead ((h5.has q).2 hv)).mono fun e w' hh => ?_
    exact ⟨by rw [hh.1]; unfold readE; rw [hv], same w' hh.2⟩
  | some x =>
    obtain ⟨kd, b⟩ := x
    have hE : readE V' q = .returned (.tuple #[.int .i64 (kd : Nat), .string b, .int .i64 0]) := by unfold readE; rw [hv]
    obtain ⟨b1, b2, b3⟩ := over_page h5 hv
    have hne : V' q ≠ none := by rw [hv]; exact fun e => by cases e
    have h0 : T9.getF T.t q ≠ 0 := fun e => hne ((h5.has q).1 e)
    obtain ⟨j, hj, rfl⟩ := isPage_cases (h5.isPage hne)
    rcases h5.tx.page j hj with ⟨s, d, e1, _, _, _, _, kd', b', e2, _, _, _, e3⟩ | ⟨_, _, e⟩ | ⟨e1, e2, e3, e4⟩
    · rw [hv] at e2
      cases e2
      rw [e3] at e1
      refine (read_own h4 h5.st.dead hq e1 h0 b1 b2 b3).mono fun e w' hh => ?_
      exact ⟨by rw [hh.1, hE], same w' hh.2⟩
    · rw [hv] at e; cases e
    · obtain ⟨s, rfl, hs1, hs2⟩ := h3
      have hi : Idle s := ⟨h5.st.off, hs2.trans ha, h5.st.pend⟩
      rcases h5.st.sto.page j hj with ⟨f1, f2⟩ | ⟨f1, kd', b', f2, _, _, _, f3⟩
      · rw [← e4, hv] at f2; cases f2
      · rw [← e4, hv] at f2
        cases f2
        refine (txRead_any h4 h5.st.dead hi h5.st.ok (by omega) hq e1 (m := T.t.P.getD j 0) (T9.getF_nat _ _ hj) e2 (by rw [e3]; exact (h5.st.sto.mpage hj f1).2.1) (by rw [e3]; exact f3) b1 b2 b3).mono fun e w' hh => ?_
        obtain ⟨z1, k', y1, y2, y3, y4, hT, hf, hk⟩ := hh
        have ho := hi.op
        refine ⟨by rw [z1, hE], ⟨k', _, T, y1.trans h1, ?_, ⟨D5.opS s true, rfl, ho.2.2.trans hs1, ho.1.2.1.trans (ha.symm)⟩, hT, ⟨⟨?_, ?_, ho.1.1, ho.1.2.2, h5.st.ok.op true, h5.st.dead, h5.st.re⟩, ?_⟩, h6⟩, hk.mono fun i hi => h2 i (.inr (.inl hi))⟩
        · intro i hi
          exact h2 i ((foot_of (F := fun _ => False) y1 y2 y3 (fun i h => .inl (hf i h)) i hi).resolve_right id)
        · have := h5.st.sto
          show Sto (D5.opS s true).secs _ _ _ _
          rw [ho.2.2]; exact this
        · have := h5.st.roots
          show Roots (D5.opS s true).secs _ _
          rw [ho.2.2]; exact this
        · have := h5.tx
          show Txi (D5.opS s true).secs.length _ _ _ _ _ _ _
          rw [ho.2.2]; exact this
end
end Go.Proofs.YtliiooldlooagaaGreatDoor.O12

/-
  What the layer's read answers of any page; over this seat's translation; conditions: those that each law states.
-/
namespace Go.Proofs.YtliiooldlooagaaGreatDoor.O12
open Go.RowKit Go.Maps J10
def pceB (b : ByteArray) : ByteArray := b.extract 2 b.size
theorem pceB_list (b : ByteArray) : (pceB b).data.toList = pce b := by
  unfold pceB pce
  rw [C7.extract_list, List.take_of_length_le (by rw [Array.length_toList]; exact Nat.le_refl _)]
theorem pceB_size (b : ByteArray) : (pceB b).size = b.size - 2 := by simp [pceB]
def linkV (next : Nat) (s : ByteArray) (c : Int) : Ending := .returned (.tuple #[.agg #[.int .i64 (next : Nat), .string s], .int .i64 c])
def linkR (kd : Nat) (b : ByteArray) (c : Int) : Ending :=
  if c = 0 then (if kd = 2 ∧ 2 < b.size then linkV (nxt b) (pceB b) 0 else linkV 0 noE 29) else if c = 1 ∨ c = 10 ∨ c = 22 ∨ c = 30 then linkV 0 noE c else linkV 0 noE 29
theorem load_link {w : World} {B : Nat} {u v : Value} (h : Blk w B 66 #[u, v]) : (loadVar 66 ⟨B, 0, none⟩).run Tryz.prog w = .ok (.agg #[u, v]) w := by
  exact run_loadVar_row (P := Tryz.prog) w B 66 66 #[u, v] (0, 0) _ h Tryz.underlying66 rfl (by show _ = some 2; kernel_rfl)
theorem res_link {fn : Func} {p q : Tmp} (h : fn.results = #[.cell p 66, .tmp q]) (tmps : Array Value) (w : World) (B : Nat) (u v z : Value)
    (hp : tmps.getD p undef = .pointer (some ⟨B, 0, none⟩)) (hq : tmps.getD q undef = z) (hb : Blk w B 66 #[u, v]) : (results fn tmps).run Tryz.prog w = .ok (.tuple #[.agg #[u, v], z]) w := by
  have hl := load_link hb
  have hp' : tmps[p]?.getD undef = .pointer (some ⟨B, 0, none⟩) := by simpa using hp
  have hq' : tmps[q]?.getD undef = z := by simpa using hq
  simp [results, h, hp', hq', asAddr, hl]
theorem two_kp {F : Nat → Prop} {w w1 : World} {o : Obj} (h : D5.Kp F (w.alloc o) w1) (u v : Value) : D5.Kp F w ((w1.setCell ⟨w.heap.size, 0, none⟩ u).setCell ⟨w.heap.size, 1, none⟩ v) :=
  (((D5.Kp.of0 (gb_alloc w o none)).trans h).step (gb_set _ _ _ _ _) (fun j e => by cases e; exact .inr (Nat.le_refl _))).step (gb_set _ _ _ _ _) (fun j e => by cases e; exact .inr (Nat.le_refl _))
theorem two_far {w1 : World} {B n : Nat} (h : n ≤ B) (u v : Value) : D5.Kp (fun i => n ≤ i) w1 ((w1.setCell ⟨B, 0, none⟩ u).setCell ⟨B, 1, none⟩ v) :=
  (D5.Kp.of (gb_set _ _ _ _ _) (fun k e => by cases e; exact h)).trans (D5.Kp.of (gb_set _ _ _ _ _) (fun k e => by cases e; exact h))
set_option maxRecDepth 100000 in
set_option maxHeartbeats 4000000 in
theorem link_walk {t : Option Addr} {w : World} {q c : Int} {kd : Nat} {b : ByteArray} {F : Nat → Prop} {R : World → Prop} (hF : ∀ i, F i → i < w.heap.size)
    (HR : ∀ W, w.grownBy W none → Calls Tryz.prog 71 #[.pointer t, .int .i64 q] W fun e w' => e = .returned (.tuple #[.int .i64 (kd : Nat), .string b, .int .i64 c]) ∧ D5.Kp F W w' ∧ R w')
    (hR : ∀ a b, R a → D5.Kp (fun i => w.heap.size ≤ i) a b → R b) (hc : c = 0 ∨ c = 1 ∨ c = 10 ∨ c = 13 ∨ c = 22 ∨ c = 30) :
    Calls Tryz.prog 37 #[.pointer t, .int .i64 q] w fun e w' => e = linkR kd b c ∧ D5.Kp F w w' ∧ R w' := by
  have H0 := Lib.hid HR
  have H1 := Lib.hid hR
  have HF := Lib.hid hF
  clear HR hR hF
  rcases hc with rfl | rfl | rfl | rfl | rfl | rfl
  · by_cases hk : kd = 2 ∧ 2 < b.size
    · obtain ⟨rfl, hsz⟩ := hk
      have hz : (2 : Int) < (b.size : Int) := by omega
      have hz3 : (2 : Int) ≤ (b.size : Int) := by omega
      have hz2 : decide ((b.size : Int) ≤ 2) = false := decide_eq_false (by omega)
      have HN := Lib.hid (fun w => readN_any b hsz w)
      have HE := Lib.hid (show linkR 2 b 0 = linkV (nxt b) (pceB b) 0 by unfold linkR; rw [if_pos rfl, if_pos ⟨rfl, hsz⟩])
      go_enter Tryz.func37, Tryz.ntmps37
      go_wp2_with (first
        | (go_at_call 71; (with_reducible refine (H0.out _ (gb_alloc _ _ none)).mono ?_); rintro e w1 ⟨rfl, k1, r1⟩; have b1 := k1.blk (Blk.mk w 66 #[.int .i64 0, .string ⟨#[]⟩]) (fun h => Nat.lt_irrefl _ (HF.out _ h)); have c0 := b1.cell 0 rfl; have c1 := b1.cell 1 rfl; have f0 := b1.free 0; have f1 := b1.free 1; have k1 := Lib.hid k1; have r1 := Lib.hid r1; have b1 := Lib.hid b1)
        | fail)
      refine wp_region_noPanic ?_
      refine wp_region_held_drew (S := fun _ => True) (by kernel_rfl) trivial (fun hHeld => ?_)
      refine wpAnyH_take (i := 0) (v := ?_) (List.getElem?_toArray.trans rfl) (by kernel_rfl) (by kernel_rfl) (by kernel_rfl) (fun _ _ _ h => h) (Or.inl ⟨by rfl, ?_⟩) hHeld ?_
      rotate_left
      · intro w' hSw; go_simp; try with_reducible rfl
      try simp only [Act.put, List.setIfInBounds_toArray, List.set_cons_zero, List.set_cons_succ]
      refine wpAnyH_take (i := 1) (v := ?_) (List.getElem?_toArray.trans rfl) (by kernel_rfl) (by kernel_rfl) (by kernel_rfl) (fun _ _ _ h => h) (Or.inl ⟨by rfl, ?_⟩) hHeld ?_
      rotate_left
      · intro w' hSw; go_simp; try with_reducible rfl
      try simp only [Act.put, List.setIfInBounds_toArray, List.set_cons_zero, List.set_cons_succ]
      refine wpAnyH_take (i := 3) (v := ?_) (List.getElem?_toArray.trans rfl) (by kernel_rfl) (by kernel_rfl) (by kernel_rfl) (fun _ _ _ h => h) (Or.inl ⟨by rfl, ?_⟩) hHeld ?_
      rotate_left
      · intro w' hSw; go_simp; try with_reducible rfl
      try simp only [Act.put, List.setIfInBounds_toArray, List.set_cons_zero, List.set_cons_succ]
      refine wpAnyH_take (i := 4) (v := .string (b.extract 2 b.size)) (List.getElem?_toArray.trans rfl) (by kernel_rfl) (by kernel_rfl) (by kernel_rfl) (fun _ _ _ h => h) (Or.inl ⟨by rfl, ?_⟩) hHeld ?_
      · intro w' hSw; go_simp
      try simp only [Act.put, List.setIfInBounds_toArray, List.set_cons_zero, List.set_cons_succ]
      refine wpAnyH_ready (rs := [2]) (by kernel_rfl) (by simp) ?_
      refine AllReadyH.cons (List.getElem?_toArray.trans rfl) (fun K hK => ?_) AllReadyH.nil
      go_simp
      go_at_call 70
      (with_reducible refine (HN.out _).mono ?_)
      rintro e w2 ⟨rfl, g2⟩
      refine hK.out _ _ (trivial) (fun hHeld => ?_)
      clear hK K
      try simp only [Act.put, List.setIfInBounds_toArray, List.set_cons_zero, List.set_cons_succ]
      refine wpAnyH_take (i := 5) (v := ?_) (List.getElem?_toArray.trans rfl) (by kernel_rfl) (by kernel_rfl) (by kernel_rfl) (fun _ _ _ h => h) (Or.inl ⟨by rfl, ?_⟩) hHeld ?_
      rotate_left
      · intro w' hSw; go_simp; try with_reducible rfl
      try simp only [Act.put, List.setIfInBounds_toArray, List.set_cons_zero, List.set_cons_succ]
      refine wpAnyH_ready (rs := [6]) (by kernel_rfl) (by simp) ?_
      refine AllReadyH.cons (List.getElem?_toArray.trans rfl) (fun K hK => ?_) AllReadyH.nil
      have b2 := (b1.out.keep0 (gb_drew w1 none)).keep0 g2
      have d0 := b2.cell 0 rfl
      have d1 := b2.cell 1 rfl
      have e0 := b2.free 0
      have e1 := b2.free 1
      go_simp
      refine hK.out _ _ (trivial) (fun hHeld => ?_)
      clear hK K
      try simp only [Act.put, List.setIfInBounds_toArray, List.set_cons_zero, List.set_cons_succ]
      refine wpAnyH_take (i := 7) (v := ?_) (List.getElem?_toArray.trans rfl) (by kernel_rfl) (by kernel_rfl) (by kernel_rfl) (fun _ _ _ h => h) (Or.inl ⟨by rfl, ?_⟩) hHeld ?_
      rotate_left
      · intro w' hSw; go_simp; try with_reducible rfl
      try simp only [Act.put, List.setIfInBounds_toArray, List.set_cons_zero, List.set_cons_succ]
      refine wpAnyH_done (by kernel_rfl) ?_ _
      refine NoPanic.normal ?_
      go_wp2
      have g12 := gb_trans (gb_drew w1 none) g2
      have bE := (b2.set 0 (.int .i64 (nxt b : Nat))).set 1 (.string (b.extract 2 b.size))
      have hR2 := H1.out _ _ r1.out (D5.Kp.of0 (F := fun i => w.heap.size ≤ i) g12)
      refine bodyPost_ret (res_link rfl _ _ w.heap.size _ _ _ rfl rfl bE) rfl ⟨?_, two_kp (k1.out.step0 g12) _ _, H1.out _ _ hR2 (two_far (Nat.le_refl _) _ _)⟩
      rw [HE.out]; rfl
    · have HE := Lib.hid (show linkR kd b 0 = linkV 0 noE 29 by unfold linkR; rw [if_pos rfl, if_neg hk])
      by_cases hk2 : kd = 2
      · subst hk2
        have hz2 : (b.size : Int) ≤ 2 := by omega
        go_enter Tryz.func37, Tryz.ntmps37
        go_wp2_with (first
          | (go_at_call 71; (with_reducible refine (H0.out _ (gb_alloc _ _ none)).mono ?_); rintro e w1 ⟨rfl, k1, r1⟩; have b1 := k1.blk (Blk.mk w 66 #[.int .i64 0, .string ⟨#[]⟩]) (fun h => Nat.lt_irrefl _ (HF.out _ h)); have c0 := b1.cell 0 rfl; have c1 := b1.cell 1 rfl; have f0 := b1.free 0; have f1 := b1.free 1; have k1 := Lib.hid k1; have r1 := Lib.hid r1; have b1 := Lib.hid b1)
          | fail)
        have bE := (b1.out.set 0 (.int .i64 0)).set 1 (.string ⟨#[]⟩)
        refine bodyPost_ret (res_link rfl _ _ w.heap.size _ _ _ rfl rfl bE) rfl ⟨?_, two_kp k1.out _ _, H1.out _ _ r1.out (two_far (Nat.le_refl _) _ _)⟩
        rw [HE.out]; rfl
      · have hk3 : (((kd : Nat) : Int) == 2) = false := by simp; omega
        have hk4 : ((kd : Nat) : Int) ≠ 2 := by omega
        go_enter Tryz.func37, Tryz.ntmps37
        go_wp2_with (first
          | (go_at_call 71; (with_reducible refine (H0.out _ (gb_alloc _ _ none)).mono ?_); rintro e w1 ⟨rfl, k1, r1⟩; have b1 := k1.blk (Blk.mk w 66 #[.int .i64 0, .string ⟨#[]⟩]) (fun h => Nat.lt_irrefl _ (HF.out _ h)); have c0 := b1.cell 0 rfl; have c1 := b1.cell 1 rfl; have f0 := b1.free 0; have f1 := b1.free 1; have k1 := Lib.hid k1; have r1 := Lib.hid r1; have b1 := Lib.hid b1)
          | fail)
        have bE := (b1.out.set 0 (.int .i64 0)).set 1 (.string ⟨#[]⟩)
        refine bodyPost_ret (res_link rfl _ _ w.heap.size _ _ _ rfl rfl bE) rfl ⟨?_, two_kp k1.out _ _, H1.out _ _ r1.out (two_far (Nat.le_refl _) _ _)⟩
        rw [HE.out]; rfl
  · go_enter Tryz.func37, Tryz.ntmps37
    go_wp2_with (first
      | (go_at_call 71; (with_reducible refine (H0.out _ (gb_alloc _ _ none)).mono ?_); rintro e w1 ⟨rfl, k1, r1⟩; have b1 := k1.blk (Blk.mk w 66 #[.int .i64 0, .string ⟨#[]⟩]) (fun h => Nat.lt_irrefl _ (HF.out _ h)); have c0 := b1.cell 0 rfl; have c1 := b1.cell 1 rfl; have f0 := b1.free 0; have f1 := b1.free 1; have k1 := Lib.hid k1; have r1 := Lib.hid r1; have b1 := Lib.hid b1)
      | fail)
    have bE := (b1.out.set 0 (.int .i64 0)).set 1 (.string ⟨#[]⟩)
    refine bodyPost_ret (res_link rfl _ _ w.heap.size _ _ _ rfl rfl bE) rfl ⟨?_, two_kp k1.out _ _, H1.out _ _ r1.out (two_far (Nat.le_refl _) _ _)⟩
    rfl
  · go_enter Tryz.func37, Tryz.ntmps37
    go_wp2_with (first
      | (go_at_call 71; (with_reducible refine (H0.out _ (gb_alloc _ _ none)).mono ?_); rintro e w1 ⟨rfl, k1, r1⟩; have b1 := k1.blk (Blk.mk w 66 #[.int .i64 0, .string ⟨#[]⟩]) (fun h => Nat.lt_irrefl _ (HF.out _ h)); have c0 := b1.cell 0 rfl; have c1 := b1.cell 1 rfl; have f0 := b1.free 0; have f1 := b1.free 1; have k1 := Lib.hid k1; have r1 := Lib.hid r1; have b1 := Lib.hid b1)
      | fail)
    have bE := (b1.out.set 0 (.int .i64 0)).set 1 (.string ⟨#[]⟩)
    refine bodyPost_ret (res_link rfl _ _ w.heap.size _ _ _ rfl rfl bE) rfl ⟨?_, two_kp k1.out _ _, H1.out _ _ r1.out (two_far (Nat.le_refl _) _ _)⟩
    rfl
  · go_enter Tryz.func37, Tryz.ntmps37
    go_wp2_with (first
      | (go_at_call 71; (with_reducible refine (H0.out _ (gb_alloc _ _ none)).mono ?_); rintro e w1 ⟨rfl, k1, r1⟩; have b1 := k1.blk (Blk.mk w 66 #[.int .i64 0, .string ⟨#[]⟩]) (fun h => Nat.lt_irrefl _ (HF.out _ h)); have c0 := b1.cell 0 rfl; have c1 := b1.cell 1 rfl; have f0 := b1.free 0; have f1 := b1.free 1; have k1 := Lib.hid k1; have r1 := Lib.hid r1; have b1 := Lib.hid b1)
      | fail)
    have bE := (b1.out.set 0 (.int .i64 0)).set 1 (.string ⟨#[]⟩)
    refine bodyPost_ret (res_link rfl _ _ w.heap.size _ _ _ rfl rfl bE) rfl ⟨?_, two_kp k1.out _ _, H1.out _ _ r1.out (two_far (Nat.le_refl _) _ _)⟩
    rfl
  · go_enter Tryz.func37, Tryz.ntmps37
    go_wp2_with (first
      | (go_at_call 71; (with_reducible refine (H0.out _ (gb_alloc _ _ none)).mono ?_); rintro e w1 ⟨rfl, k1, r1⟩; have b1 := k1.blk (Blk.mk w 66 #[.int .i64 0, .string ⟨#[]⟩]) (fun h => Nat.lt_irrefl _ (HF.out _ h)); have c0 := b1.cell 0 rfl; have c1 := b1.cell 1 rfl; have f0 := b1.free 0; have f1 := b1.free 1; have k1 := Lib.hid k1; have r1 := Lib.hid r1; have b1 := Lib.hid b1)
      | fail)
    have bE := (b1.out.set 0 (.int .i64 0)).set 1 (.string ⟨#[]⟩)
    refine bodyPost_ret (res_link rfl _ _ w.heap.size _ _ _ rfl rfl bE) rfl ⟨?_, two_kp k1.out _ _, H1.out _ _ r1.out (two_far (Nat.le_refl _) _ _)⟩
    rfl
  · go_enter Tryz.func37, Tryz.ntmps37
    go_wp2_with (first
      | (go_at_call 71; (with_reducible refine (H0.out _ (gb_alloc _ _ none)).mono ?_); rintro e w1 ⟨rfl, k1, r1⟩; have b1 := k1.blk (Blk.mk w 66 #[.int .i64 0, .string ⟨#[]⟩]) (fun h => Nat.lt_irrefl _ (HF.out _ h)); have c0 := b1.cell 0 rfl; have c1 := b1.cell 1 rfl; have f0 := b1.free 0; have f1 := b1.free 1; have k1 := Lib.hid k1; have r1 := Lib.hid r1; have b1 := Lib.hid b1)
      | fail)
    have bE := (b1.out.set 0 (.int .i64 0)).set 1 (.string ⟨#[]⟩)
    refine bodyPost_ret (res_link rfl _ _ w.heap.size _ _ _ rfl rfl bE) rfl ⟨?_, two_kp k1.out _ _, H1.out _ _ r1.out (two_far (Nat.le_refl _) _ _)⟩
    rfl
/-- The layer's read, of a transaction that goes on. -/
def linkE (V : Pgs) (q : Int) : Ending := match bodyAt V q with
  | some b => linkV (nxt b) (pceB b) 0
  | none => linkV 0 noE 29
theorem link_live {w : World} {base p : Nat} {F : Nat → Prop} {y : Bx} {n : Nat} {g0 : Pg} {V V' : Pgs} {N z : Nat} (h : Live w base p F y n g0 V V' N z) (hF : ∀ i, F i → i < w.heap.size) (ha : g0.d.armed = false) (hN : N ≤ 880000) {q : Int} (hq : In64 q) :
    Calls Tryz.prog 37 #[.pointer (some ⟨y.x, 0, none⟩), .int .i64 q] w fun e w' => e = linkE V' q ∧ D5.Kp F w w' ∧ Live w' base p F y n g0 V V' (N + 1) z := by
  obtain ⟨l1, l2, l3, l4⟩ := h.lt
  have hfar : ∀ i, FX F y i → ¬ w.heap.size ≤ i := fun i hi => by
    rcases hi with hi | rfl | rfl | rfl | rfl
    · have := hF i hi; omega
    all_goals omega
  have hR : ∀ a b, Live a base p F y n g0 V V' (N + 1) z → D5.Kp (fun i => w.heap.size ≤ i) a b → Live b base p F y n g0 V V' (N + 1) z := fun a b hl hk => hl.kp hk hfar
  cases hv : V' q with
  | none =>
    have e1 : linkE V' q = linkR 0 noE 13 := by unfold linkE bodyAt; rw [hv]; rfl
    rw [e1]
    refine link_walk hF (fun W gW => (read_live (h.keep0 gW) ha hN hq).mono fun e w' hh => ⟨?_, hh.2.2, hh.2.1⟩) hR (by omega)
    rw [hh.1]; unfold readE; rw [hv]; rfl
  | some x =>
    obtain ⟨kd, b⟩ := x
    have e1 : linkE V' q = linkR kd b 0 := by
      unfold linkE bodyAt linkR
      rw [hv, if_pos rfl]
      by_cases hk : kd = 2 ∧ 2 < b.size
      · simp only [if_pos hk]
      · simp only [if_neg hk]
    rw [e1]
    refine link_walk hF (fun W gW => (read_live (h.keep0 gW) ha hN hq).mono fun e w' hh => ⟨?_, hh.2.2, hh.2.1⟩) hR (by omega)
    rw [hh.1]; unfold readE; rw [hv]
end Go.Proofs.YtliiooldlooagaaGreatDoor.O12

/-
  What Pages answers of any page; over this seat's translation; conditions: those that each law states.
-/
namespace Go.Proofs.YtliiooldlooagaaGreatDoor.O12
open Go.RowKit Go.Maps J10
/-- A row of numbers of the call's own. -/
def RowZ (B : Nat) (l : List Int) (v : Value) (W : World) : Prop := W.ownsRow B 3 1 v l.length (intC l)
theorem RowZ.kp {B : Nat} {l : List Int} {v : Value} {F : Nat → Prop} {W W' : World} (h : RowZ B l v W) (k : D5.Kp F W W') (hF : ∀ i, F i → i < B) : RowZ B l v W' :=
  D5.Kp.row k h (fun k e hf => by have := (h.lt k e).1; have := hF k hf; omega)
theorem RowZ.snoc {B : Nat} {l : List Int} {W' : World} {v' : Value} {q : Int} (own : W'.ownsRow B 3 1 v' (l.length + 1) (intC l ++ [.int .i64 q])) : RowZ B (l ++ [q]) v' W' := by
  unfold RowZ
  refine owns_cast own (by simp) ?_
  unfold intC
  rw [List.map_append]; rfl
theorem cell1_eq (W : World) (v : Value) (t : TypeId) (b : Nat) (hb : b = W.heap.size) : ∀ j u, [v][j]? = some u → (W.alloc (.cells #[v] t)).cell? ((⟨b, 0, none⟩ : Addr).add j) = some u := by
  subst hb; exact T9.cell1_new W v t
theorem one_intZ (z : Int) : ∀ u ∈ [Value.int .i64 z], u.oneCell' = true := by
  intro u hu; simp at hu; subst hu; rfl
def lenV : Value → Nat
  | .slice _ n _ => n
  | _ => 0
theorem kp_far {F : Nat → Prop} {w a b : World} (h : D5.Kp F w a) (k : D5.Kp (fun i => w.heap.size ≤ i) a b) : D5.Kp F w b :=
  ⟨k.os.trans h.os, k.tape.trans h.tape, k.output.trans h.output, Nat.le_trans h.size k.size, fun i hi hf => (k.block i (Nat.lt_of_lt_of_le hi h.size) (by omega)).trans (h.block i hi hf)⟩
theorem after_app {w1 w3 : World} {B n size : Nat} {e : TypeId} {v : Value} {xs : List Value} {o1 o2 : Obj} (own : w1.ownsRow B e size v n xs) (g3 : ((w1.alloc o1).alloc o2).grownBy w3 v.ownBlock) : D5.Kp (fun i => B ≤ i) w1 w3 :=
  ((D5.Kp.of0 (gb_alloc _ _ none)).trans (D5.Kp.of0 (gb_alloc _ _ none))).trans (D5.Kp.of g3 (fun k hk => (own.lt k hk).1))
theorem blk_after {w1 w3 : World} {B n size : Nat} {e t : TypeId} {v : Value} {xs : List Value} {cs : Array Value} {o2 : Obj} (own : w1.ownsRow B e size v n xs) (g3 : ((w1.alloc (.cells cs t)).alloc o2).grownBy w3 v.ownBlock) : Blk w3 w1.heap.size t cs :=
  ((Blk.mk w1 t cs).keep0 (gb_alloc _ _ none)).keep g3 (fun h => Nat.lt_irrefl _ (own.lt _ h.symm).2)
theorem RowZ.len {B : Nat} {l : List Int} {W : World} {v : Value} (h : RowZ B l v W) : lenV v = l.length := by
  rcases h.2 with ⟨rfl, h0⟩ | ⟨g, cap, _, rfl, _⟩
  · exact h0.symm
  · rfl
theorem RowZ.shape {B : Nat} {l : List Int} {W : World} {v : Value} (h : RowZ B l v W) : ∃ ao cap, v = .slice ao l.length cap := by
  rcases h.2 with ⟨e, h0⟩ | ⟨g, cap, _, e, _⟩
  · exact ⟨none, 0, by rw [e, h0]⟩
  · exact ⟨_, _, e⟩
/-- One step of Pages. -/
theorem pages_none {V : Pgs} {k : Nat} {q : Int} (h : bodyAt V q = none) : pagesL V (k + 1) q = none := by unfold pagesL; rw [h]
theorem pages_last {V : Pgs} {k : Nat} {q : Int} {b : ByteArray} (h : bodyAt V q = some b) (hz : nxt b = 0) : pagesL V (k + 1) q = some [q] := by unfold pagesL; rw [h]; simp only [if_pos hz]
theorem pages_more {V : Pgs} {k : Nat} {q : Int} {b : ByteArray} (h : bodyAt V q = some b) (hz : nxt b ≠ 0) (h2 : b.size = 240) : pagesL V (k + 1) q = (pagesL V k (nxt b)).map (q :: ·) := by
  rw [pagesL]; rw [h]; simp only [if_neg hz, if_pos h2]
theorem pages_bad {V : Pgs} {k : Nat} {q : Int} {b : ByteArray} (h : bodyAt V q = some b) (hz : nxt b ≠ 0) (h2 : b.size ≠ 240) : pagesL V (k + 1) q = none := by
  rw [pagesL]; rw [h]; simp only [if_neg hz, if_neg h2]
def PagesR (B : Nat) (o : Option (List Int)) (e : Ending) (w' : World) : Prop := match o with
  | some l => ∃ v, e = .returned (.tuple #[v, .int .i64 0]) ∧ RowZ B l v w'
  | none => e = .returned (.tuple #[.slice none 0 0, .int .i64 29])
def PagesG (w : World) (base p : Nat) (F : Nat → Prop) (y : Bx) (n : Nat) (g0 : Pg) (V V' : Pgs) (N z : Nat) (first : Int) (e : Ending) (w' : World) : Prop :=
  PagesR w.heap.size (pagesL V' 9 first) e w' ∧ D5.Kp F w w' ∧ Live w' base p F y n g0 V V' (N + 9) z
set_option maxRecDepth 100000 in
set_option maxHeartbeats 4000000 in
theorem pages_live {w : World} {base p : Nat} {F : Nat → Prop} {y : Bx} {n : Nat} {g0 : Pg} {V V' : Pgs} {N z : Nat} (h : Live w base p F y n g0 V V' N z) (hF : ∀ i, F i → i < w.heap.size) (ha : g0.d.armed = false) (hN : N ≤ 870000) {first : Int} (hq : In64 first) :
    Calls Tryz.prog 21 #[.pointer (some ⟨y.x, 0, none⟩), .int .i64 first] w (PagesG w base p F y n g0 V V' N z first) := by
  unfold PagesG
  obtain ⟨i0, hi, hz0, hz1, hz2⟩ := info_parts T9.Tryz.infoInt
  obtain ⟨l1, l2, l3, l4⟩ := h.lt
  have hfar : ∀ i, FX F y i → i < w.heap.size := fun i hi => by
    rcases hi with hi | rfl | rfl | rfl | rfl
    · exact hF i hi
    all_goals omega
  have HFar := Lib.hid hfar
  have HF := Lib.hid hF
  have H0 := Lib.hid h
  clear h hF hfar l1 l2 l3 l4
  go_enter Tryz.func21, Tryz.ntmps21
  go_wp2
  go_loopw [6, 7] (fun v q wr => ∃ (l : List Int) (x : Int), l.length ≤ 9 ∧ q = .int .i64 x ∧ In64 x ∧ RowZ w.heap.size l v wr ∧ Live wr base p F y n g0 V V' (N + l.length) z ∧ D5.Kp F w wr ∧ pagesL V' 9 first = (pagesL V' (9 - l.length) x).map (l ++ ·)) (fun v _ _ => 9 - lenV v)
  case atStart => exact ⟨[], first, by simp, rfl, hq, World.ownsRow_nil _ _ _ _, H0.out, D5.Kp.refl _ _, by simp⟩
  case round =>
    obtain ⟨l, x, hl, rfl, hx, hR, hLv, hk, hp⟩ := hrel
    have hz0' := hk.size
    obtain ⟨ao, cap, rfl⟩ : ∃ ao cap, u6 = .slice ao l.length cap := by
      rcases hR.2 with ⟨e, h0⟩ | ⟨g, cap, _, e, _⟩
      · exact ⟨none, 0, by rw [e, h0]⟩
      · exact ⟨_, _, e⟩
    have HR := Lib.hid hR
    have Hk := Lib.hid hk
    have HP := Lib.hid hp
    by_cases hlt : l.length < 9
    · have hC := link_live hLv (fun i hi => Nat.lt_of_lt_of_le (HF.out i hi) hz0') ha (by omega) hx
      obtain ⟨k9, hk9⟩ : ∃ k9, 9 - l.length = k9 + 1 := ⟨9 - l.length - 1, by omega⟩
      have HK9 := Lib.hid hk9
      rw [hk9] at hp
      clear hk9 hR hk hLv
      cases hb : bodyAt V' x with
      | none =>
        have e1 : linkE V' x = .returned (.tuple #[.agg #[.int .i64 0, .string noE], .int .i64 29]) := by unfold linkE; rw [hb]; rfl
        rw [e1] at hC
        rw [pages_none hb] at hp
        have HC := Lib.hid hC
        have HQ := Lib.hid hp
        clear hC hb hp e1
        go_wp2_with (first
          | (go_at_call 37; (with_reducible refine HC.out.mono ?_); rintro e w1 ⟨rfl, k1, v1⟩; have k1 := Lib.hid k1; have v1 := Lib.hid v1)
          | fail)
        go_ret2
        exact ⟨by rw [HQ.out]; rfl, (Hk.out.trans k1.out).step0 (gb_alloc _ _ none), (v1.out.keep0 (gb_alloc _ _ none)).more (by omega)⟩
      | some b =>
        have e1 : linkE V' x = .returned (.tuple #[.agg #[.int .i64 (nxt b : Nat), .string (pceB b)], .int .i64 0]) := by unfold linkE; rw [hb]; rfl
        rw [e1] at hC
        have HC := Lib.hid hC
        have hnl := nxt_lt b
        have hsz := pceB_size b
        have hgt := (bodyAt_some hb).2
        clear hC e1
        by_cases hz : nxt b = 0
        · rw [pages_last hb hz] at hp
          have HQ := Lib.hid hp
          rw [hz] at HC
          clear hb hp hz hsz hgt
          go_wp2_with (first
            | (go_at_call 37; (with_reducible refine HC.out.mono ?_); rintro e w1 ⟨rfl, k1, v1⟩; have ow1 := HR.out.kp k1 HF.out; unfold RowZ at ow1; have k1 := Lib.hid k1; have v1 := Lib.hid v1)
            | (at_builtin; go_must (refine wpList_append_own _ rfl _ _ 40 rfl w.heap.size 3 i0 (.int .i64 0) 1 8 Tryz.underlying40 hi hz0 hz1 hz2 rfl (by decide) _ _ _ rfl ((ow1.alloc _).alloc _) ⟨_, 0, none⟩ 1 1 [.int .i64 x] rfl rfl (cell1_eq _ _ _ _ (by simp)) (one_intZ _) (by unfold maxLen; omega) (by omega) (by have := k1.out.size; simp; omega) ?_; intro v3 w3 own3 g3 _; have bA := blk_after ow1 g3; have c0 := bA.cell 0 rfl; have c1 := bA.cell 1 rfl; have kA := Lib.hid (after_app ow1 g3); have R3 := Lib.hid (RowZ.snoc own3); clear own3 g3))
            | fail)
          go_ret2
          refine ⟨?_, kp_far (Hk.out.trans k1.out) kA.out, (v1.out.kp kA.out (fun i hi => by have := HFar.out i hi; omega)).more (by omega)⟩
          rw [HQ.out]
          exact ⟨_, rfl, R3.out⟩
        · by_cases h240 : b.size = 240
          · rw [pages_more hb hz h240] at hp
            have HQ := Lib.hid hp
            obtain ⟨nb, hnb⟩ : ∃ nb, nxt b = nb := ⟨_, rfl⟩
            rw [hnb] at HC HQ hz hnl
            obtain ⟨pb, hpb⟩ : ∃ pb, pceB b = pb := ⟨_, rfl⟩
            rw [hpb] at HC hsz
            have hpz : (pb.size : Int) = 238 := by omega
            have hz4 : (((nb : Nat) : Int) == 0) = false := by simp; omega
            clear hb hp hsz hgt hnb hpb h240
            go_wp2_with (first
              | (go_at_call 37; (with_reducible refine HC.out.mono ?_); rintro e w1 ⟨rfl, k1, v1⟩; have ow1 := HR.out.kp k1 HF.out; unfold RowZ at ow1; have k1 := Lib.hid k1; have v1 := Lib.hid v1)
              | (at_builtin; go_must (refine wpList_append_own _ rfl _ _ 40 rfl w.heap.size 3 i0 (.int .i64 0) 1 8 Tryz.underlying40 hi hz0 hz1 hz2 rfl (by decide) _ _ _ rfl ((ow1.alloc _).alloc _) ⟨_, 0, none⟩ 1 1 [.int .i64 x] rfl rfl (cell1_eq _ _ _ _ (by simp)) (one_intZ _) (by unfold maxLen; omega) (by omega) (by have := k1.out.size; simp; omega) ?_; intro v3 w3 own3 g3 _; have bA := blk_after ow1 g3; have c0 := bA.cell 0 rfl; have c1 := bA.cell 1 rfl; have kA := Lib.hid (after_app ow1 g3); have R3 := Lib.hid (RowZ.snoc own3); clear own3 g3))
              | fail)
            have hsn : (l ++ [x]).length = l.length + 1 := by simp
            go_roundw
            case rel => exact ⟨l ++ [x], (nb : Int), by omega, rfl, ⟨by omega, by omega⟩, R3.out, (v1.out.kp kA.out (fun i hi => by have := HFar.out i hi; omega)).more (by omega), kp_far (Hk.out.trans k1.out) kA.out, by rw [HQ.out, show 9 - (l ++ [x]).length = k9 by have := HK9.out; omega]; cases pagesL V' k9 (nb : Int) <;> simp⟩
            case measure => have hlv := R3.out.len; show 9 - lenV v3 < 9 - l.length; rw [hlv]; omega
          · rw [pages_bad hb hz h240] at hp
            have HQ := Lib.hid hp
            obtain ⟨nb, hnb⟩ : ∃ nb, nxt b = nb := ⟨_, rfl⟩
            rw [hnb] at HC hz hnl
            obtain ⟨pb, hpb⟩ : ∃ pb, pceB b = pb := ⟨_, rfl⟩
            rw [hpb] at HC hsz
            have hpz : ((pb.size : Int) == 238) = false := by simp; omega
            have hz4 : (((nb : Nat) : Int) == 0) = false := by simp; omega
            clear hb hp hsz hgt hnb hpb h240
            go_wp2_with (first
              | (go_at_call 37; (with_reducible refine HC.out.mono ?_); rintro e w1 ⟨rfl, k1, v1⟩; have ow1 := HR.out.kp k1 HF.out; unfold RowZ at ow1; have k1 := Lib.hid k1; have v1 := Lib.hid v1)
              | (at_builtin; go_must (refine wpList_append_own _ rfl _ _ 40 rfl w.heap.size 3 i0 (.int .i64 0) 1 8 Tryz.underlying40 hi hz0 hz1 hz2 rfl (by decide) _ _ _ rfl ((ow1.alloc _).alloc _) ⟨_, 0, none⟩ 1 1 [.int .i64 x] rfl rfl (cell1_eq _ _ _ _ (by simp)) (one_intZ _) (by unfold maxLen; omega) (by omega) (by have := k1.out.size; simp; omega) ?_; intro v3 w3 own3 g3 _; have bA := blk_after ow1 g3; have c0 := bA.cell 0 rfl; have c1 := bA.cell 1 rfl; have kA := Lib.hid (after_app ow1 g3); have R3 := Lib.hid (RowZ.snoc own3); clear own3 g3))
              | fail)
            go_ret2
            exact ⟨by rw [HQ.out]; rfl, kp_far (Hk.out.trans k1.out) kA.out, (v1.out.kp kA.out (fun i hi => by have := HFar.out i hi; omega)).more (by omega)⟩
    · have h9 : l.length = 9 := by omega
      rw [h9] at hp
      have HQ := Lib.hid (show pagesL V' 9 first = none from hp)
      have HLv := Lib.hid hLv
      clear hR hk hLv hp
      go_wp2
      go_ret2
      exact ⟨by rw [HQ.out]; rfl, Hk.out, HLv.out.more (by omega)⟩
end Go.Proofs.YtliiooldlooagaaGreatDoor.O12

/-
  What Drop answers and leaves, of any page; what New and Drop of a transaction answer, one by one; over this seat's translation; conditions: those that each law states.
-/
namespace Go.Proofs.YtliiooldlooagaaGreatDoor.O12
open Go.RowKit Go.Maps J10
section
variable {w : World} {base p : Nat} {F : Nat → Prop} {y : Bx} {n : Nat} {g0 : Pg} {V V' : Pgs} {N z : Nat}
theorem drop_live (h : Live w base p F y n g0 V V' N z) {q : Int} (hq : V' q ≠ none) :
    Calls Tryz.prog 19 #[.pointer (some ⟨y.x, 0, none⟩), .int .i64 q] w fun e w' => e = .returned (.int .i64 0) ∧ ∃ n' z', n' ≤ n + 1 ∧ Live w' base p F y n' g0 V (del V' q) N z' ∧ D5.Kp (footT y) w w' := by
  obtain ⟨k, g, T, h1, h2, h3, h4, h5, h6⟩ := h
  refine (ov_drop h4 h5 q).mono fun e w' hh => ?_
  rcases hh with ⟨_, e1, n', T', hn, hT, hO, hk⟩ | ⟨e0, _⟩
  · exact ⟨e1, n', _, hn, ⟨k, g, T', h1, h2, h3, hT, hO, rfl⟩, hk⟩
  · exact absurd e0 hq
theorem dropAny_live (h : Live w base p F y n g0 V V' N z) (q : Int) :
    Calls Tryz.prog 19 #[.pointer (some ⟨y.x, 0, none⟩), .int .i64 q] w fun e w' => (∃ c, e = .returned (.int .i64 c)) ∧ ∃ n' z', n' ≤ n + 1 ∧ Live w' base p F y n' g0 V (del V' q) N z' ∧ D5.Kp (footT y) w w' := by
  obtain ⟨k, g, T, h1, h2, h3, h4, h5, h6⟩ := h
  refine (ov_drop h4 h5 q).mono fun e w' hh => ?_
  rcases hh with ⟨_, e1, n', T', hn, hT, hO, hk⟩ | ⟨e0, e1, n', T', hn, hT, hO, hk⟩
  · exact ⟨⟨_, e1⟩, n', _, hn, ⟨k, g, T', h1, h2, h3, hT, hO, rfl⟩, hk⟩
  · refine ⟨⟨_, e1⟩, n', _, hn, ⟨k, g, T', h1, h2, h3, hT, ?_, rfl⟩, hk⟩
    have : del V' q = V' := by
      funext r
      unfold J10.del
      by_cases e : r = q
      · rw [if_pos e, e, e0]
      · rw [if_neg e]
    rw [this]
    exact hO
/-- New, whatever it answers. -/
theorem new_live (h : Live w base p F y n g0 V V' N z) (hT : M6.Tab w) (hn : n < 1000000) {kd : Nat} {b : ByteArray} (h1 : 1 ≤ kd) (h2 : kd ≤ 254) (h3 : b.size ≤ 240) (kz : Int) (hkz : ((kd : Nat) : Int) = kz) :
    Calls Tryz.prog 27 #[.pointer (some ⟨y.x, 0, none⟩), .int .i64 kz, .string b] w fun e w' =>
      ∃ n', n' ≤ n + 1 ∧ D5.Kp (footT y) w w' ∧
      ((∃ q : Int, e = .returned (.tuple #[.int .i64 q, .int .i64 0]) ∧ V' q = none ∧ 1 ≤ q ∧ q ≤ 960 ∧ Live w' base p F y n' g0 V (upd V' q (kd, b)) N (z - 1) ∧ 0 < z ∧ ∀ r : Int, 1 ≤ r → r < q → V' r ≠ none) ∨
      (e = .returned (.tuple #[.int .i64 0, .int .i64 11]) ∧ Live w' base p F y n' g0 V V' N z ∧ z = 0) ∨
      (e = .returned (.tuple #[.int .i64 0, .int .i64 15]) ∧ Live w' base p F y n' g0 V V' N z ∧ cntV V' = 960)) := by
  subst hkz
  obtain ⟨k, g, T, q1, q2, q3, q4, q5, q6⟩ := h
  refine (ov_newL q4 q5 hT hn h1 h2 h3).mono fun e w' hh => ?_
  rcases hh with ⟨q, e1, e2, e3, e4, ⟨n', T', hn, hT, hO, hk, hz⟩, e6, e7⟩ | ⟨e1, ⟨n', T', hn, hT, hO, hk, hz⟩, e3⟩ | ⟨e1, ⟨n', T', hn, hT, hO, hk, hz⟩, e3⟩
  · exact ⟨n', hn, hk, .inl ⟨q, e1, e2, e3, e4, ⟨k, g, T', q1, q2, q3, hT, hO, by rw [hz, q6]⟩, by rw [← q6]; exact (left_pos T.m).1 e6, e7⟩⟩
  · exact ⟨n', hn, hk, .inr (.inl ⟨e1, ⟨k, g, T', q1, q2, q3, hT, hO, by rw [hz, q6]⟩, by
      rw [← q6]; exact Nat.eq_zero_of_not_pos (fun e => e3 ((left_pos T.m).2 e))⟩)⟩
  · exact ⟨n', hn, hk, .inr (.inr ⟨e1, ⟨k, g, T', q1, q2, q3, hT, hO, by rw [hz, q6]⟩, cntV_first (by omega) fun j hj => ⟨fun _ => hj, fun _ => e3 j hj⟩⟩)⟩
def DropG (w : World) (base p : Nat) (F : Nat → Prop) (y : Bx) (n : Nat) (g0 : Pg) (V V' : Pgs) (N z : Nat) (o : Option (List Int)) (e : Ending) (w' : World) : Prop :=
  D5.Kp (FX F y) w w' ∧ match o with
    | some l => e = .returned (.int .i64 0) ∧ ∃ n' z', n' ≤ n + 9 ∧ Live w' base p F y n' g0 V (delL V' l) (N + 9) z'
    | none => e = .returned (.int .i64 29) ∧ Live w' base p F y n g0 V V' (N + 9) z
theorem delL_take (V : Pgs) (l : List Int) {j : Nat} (h : j < l.length) : del (delL V (l.take j)) l[j] = delL V (l.take (j + 1)) := by
  rw [delL_snoc, List.take_succ_eq_append_getElem h]
theorem FX.foot {F : Nat → Prop} {y : Bx} {i : Nat} (h : footT y i) : FX F y i := .inr (.inr (h.imp id id))
set_option maxRecDepth 100000 in
set_option maxHeartbeats 4000000 in
theorem chainDrop_live (h : Live w base p F y n g0 V V' N z) (hF : ∀ i, F i → i < w.heap.size) (ha : g0.d.armed = false) (hN : N ≤ 870000) {first : Int} (hq : In64 first) :
    Calls Tryz.prog 11 #[.pointer (some ⟨y.x, 0, none⟩), .int .i64 first] w (DropG w base p F y n g0 V V' N z (pagesL V' 9 first)) := by
  unfold DropG
  obtain ⟨l1, l2, l3, l4⟩ := h.lt
  have hfar : ∀ i, FX F y i → i < w.heap.size := fun i hi => by
    rcases hi with hi | rfl | rfl | rfl | rfl
    · exact hF i hi
    all_goals omega
  have HFar := Lib.hid hfar
  have HP := Lib.hid (pages_live h hF ha hN hq)
  cases ho : pagesL V' 9 first with
  | none =>
    unfold PagesG PagesR at HP
    rw [ho] at HP
    clear h hF hfar l1 l2 l3 l4 ho
    go_enter Tryz.func11, Tryz.ntmps11
    go_wp2_with (first
      | (go_at_call 21; (with_reducible refine HP.out.mono ?_); rintro e w1 ⟨rfl, k1, v1⟩; have k1 := Lib.hid k1; have v1 := Lib.hid v1)
      | fail)
    go_ret
    exact ⟨k1.out.mono (fun i hi => .inl hi), rfl, v1.out⟩
  | some l =>
    have hl9 := pagesL_len ho
    have hnd := pagesL_nodup ho
    have hst : ∀ q ∈ l, V' q ≠ none := fun q hq => ((pagesL_tail ho).1 q hq).1
    have HND := Lib.hid hnd
    have HST := Lib.hid hst
    unfold PagesG PagesR at HP
    rw [ho] at HP
    clear h hF hfar l1 l2 l3 l4 ho hnd hst
    go_enter Tryz.func11, Tryz.ntmps11
    go_wp2_with (first
      | (go_at_call 21; (with_reducible refine HP.out.mono ?_); rintro e w1 ⟨⟨v, rfl, hR⟩, k1, v1⟩; obtain ⟨ao, cap, rfl⟩ := hR.shape; have hR := Lib.hid hR; have k1 := Lib.hid k1; have v1 := Lib.hid v1)
      | fail)
    go_loopw [21] (fun i wr => ∃ (j : Nat) (n' z' : Nat), j ≤ l.length ∧ i = .int .i64 (j : Nat) ∧ RowZ w.heap.size l (.slice ao l.length cap) wr ∧ n' ≤ n + j ∧ Live wr base p F y n' g0 V (delL V' (l.take j)) (N + 9) z' ∧ D5.Kp (FX F y) w wr) (fun i _ => l.length - (intOf i).toNat)
    case atStart => exact ⟨0, n, z, by omega, rfl, hR.out, by omega, by rw [List.take_zero, delL_nil]; exact v1.out, k1.out.mono (fun i hi => .inl hi)⟩
    case round =>
      obtain ⟨j, n', z', hj, rfl, hRr, hn, hv, hk⟩ := hrel
      have HRr := Lib.hid hRr
      have Hk := Lib.hid hk
      have HV := Lib.hid hv
      by_cases hlt : j < l.length
      · have hS := Sl.of_owns hRr
        obtain ⟨ao', cap', e0, _, _, hno, hx⟩ := hS
        cases e0
        cases ao with
        | none => have := (hno rfl).1; omega
        | some ad =>
          have c0 := hx ad rfl j _ (intC_at hlt)
          have hg : l.getD j 0 = l[j] := by rw [List.getD_eq_getElem?_getD, List.getElem?_eq_getElem hlt]; rfl
          rw [hg] at c0
          have hne : delL V' (l.take j) l[j] ≠ none := by
            unfold delL
            rw [if_neg]
            · exact HST.out _ (List.getElem_mem hlt)
            · intro hm
              obtain ⟨i, hi, e⟩ := List.getElem_of_mem hm
              rw [List.length_take] at hi
              rw [List.getElem_take] at e
              exact (List.pairwise_iff_getElem.1 HND.out) i j (by omega) hlt (by omega) e
          have HD := Lib.hid (drop_live HV.out hne)
          have HT := Lib.hid (delL_take V' l hlt)
          generalize l[j] = q at c0 HD HT
          clear hRr hk hv hne hno hx hg
          go_wp2_with (first
            | (go_at_call 19; (with_reducible refine HD.out.mono ?_); rintro e w2 ⟨rfl, n2, z2, hn2, v2, k2⟩; have v2 := Lib.hid v2; have k2 := Lib.hid k2)
            | fail)
          go_roundw
          case rel => exact ⟨j + 1, n2, z2, by omega, by go_num, HRr.out.kp (k2.out.mono (fun i hi => FX.foot hi)) HFar.out, by omega, by rw [← HT.out]; exact v2.out, Hk.out.trans (k2.out.mono (fun i hi => FX.foot hi))⟩
          case measure => simp [intOf]; omega
      · obtain rfl : j = l.length := by omega
        rw [List.take_length] at HV
        clear hRr hk hv
        go_wp2
        go_ret
        exact ⟨Hk.out, rfl, n', z', by omega, HV.out⟩
end
end Go.Proofs.YtliiooldlooagaaGreatDoor.O12
