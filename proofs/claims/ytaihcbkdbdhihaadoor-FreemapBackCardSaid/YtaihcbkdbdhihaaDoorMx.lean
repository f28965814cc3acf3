/-
  What is asked of a word: how many bits are set, which is the lowest one; and the map's next thing, its count, its copy, over this seat's translation; condition: the table of math/bits reads as the library lays it.
-/
import Derived.Test.YtaihcbkdbdhihaaDoorMw
namespace Go.Proofs.YtaihcbkdbdhihaaDoor
open Go.RowKit

/-- The library's table. -/
def Tab (w : World) : Prop := ∀ j, j < 64 → w.cell? ⟨0, j, none⟩ = some (.int .u8 (Lib.deBruijn64tab.getD j 0 : Nat))
theorem Tab.keep0 {w w' : World} (h : Tab w) (g : w.grownBy w' none) : Tab w' := fun k hk => g.cell (h k hk) (by simp)
theorem tab_far {w : World} {p : Nat} {us : List Bool} (h : Tab w) (hp : PM w p us) : p ≠ 0 := by
  rintro rfl
  have h1 := h 0 (by decide)
  rw [hp.things] at h1
  cases h1
theorem Tab.keepP {w w' : World} {p : Nat} {us : List Bool} (h : Tab w) (hp : PM w p us) (g : w.grownBy w' (some p)) : Tab w' := fun k hk => g.cell (h k hk) (by intro e; exact tab_far h hp (Option.some.inj e).symm)
theorem tz_key (x a : Nat) (hx : x < 18446744073709551616) (hx0 : x ≠ 0) (hlow : x &&& (18446744073709551616 - x) = a) :
    IntKind.u64.wrap (bits BinOp.and IntKind.u64 (x : Int) (IntKind.u64.wrap (-(x : Int))) * 285870213051353865) / 288230376151711744 = ((a * 285870213051353865 % 18446744073709551616 / 288230376151711744 : Nat) : Int) := by
  have e1 : IntKind.u64.wrap (-(x : Int)) = ((18446744073709551616 - x : Nat) : Int) := by rw [IntKind.wrap_u64]; omega
  rw [e1, bits_and_u64_nat x _ hx (by omega), hlow, IntKind.wrap_u64]
  omega
set_option maxHeartbeats 1000000 in
theorem tz_core (x k idx : Nat) (w : World) (hx0 : ((x : Int) == 0) = false)
    (key : IntKind.u64.wrap (bits BinOp.and IntKind.u64 (x : Int) (IntKind.u64.wrap (-(x : Int))) * 285870213051353865) / 288230376151711744 = (idx : Int))
    (hi : idx < 64) (hk : k < 64) (hcell : w.cell? ⟨0, idx, none⟩ = some (.int .u8 k)) :
    Calls Tryd.prog 41 #[.int .u64 x] w fun e w' => e = .returned (.int .i64 k) ∧ w = w' := by
  go_enter Tryd.func41, Tryd.ntmps41
  go_wp2_with (simp only [key])
  go_ret
  exact ⟨rfl, rfl⟩
theorem tz_any (x : Nat) (w : World) (hx : x < 18446744073709551616) (h0 : x ≠ 0) (hT : Tab w) :
    Calls Tryd.prog 41 #[.int .u64 (x : Nat)] w fun e w' => e = .returned (.int .i64 (Lib.ctz 64 x : Nat)) ∧ w = w' := by
  obtain ⟨hlow, hk⟩ := Lib.lowest_bit 64 x h0 hx
  obtain ⟨hi, htab⟩ := Lib.deBruijn64_at _ hk
  have hcell := hT _ hi
  rw [htab] at hcell
  exact tz_core x _ _ w (by simp; omega) (tz_key x _ hx h0 hlow) hi hk hcell
theorem i64_and_127 (x : Nat) (hx : x < 9223372036854775808) : bits BinOp.and IntKind.i64 (x : Int) 127 = ((x % 128 : Nat) : Int) := by
  have h1 : (BitVec.ofInt 64 (x : Int)).toNat = x := by
    rw [BitVec.ofInt_natCast, BitVec.toNat_ofNat]; exact Nat.mod_eq_of_lt (by omega)
  have h2 : (BitVec.ofInt 64 (127 : Int)).toNat = 127 := by decide
  have h3 : x &&& 127 = x % 128 := Nat.and_two_pow_sub_one_eq_mod x 7
  show IntKind.i64.wrap ((BitVec.ofInt 64 (x : Int) &&& BitVec.ofInt 64 (127 : Int)).toNat : Int) = _
  rw [BitVec.toNat_and, h1, h2, h3]
  exact IntWalk.i64_in _ (by omega)
theorem u64_and' (a b : Nat) (c : Int) (hc : c = (b : Int)) (ha : a < 18446744073709551616) (hb : b < 18446744073709551616) : bits .and .u64 (a : Int) c = ((a &&& b : Nat) : Int) := by
  subst hc; exact bits_and_u64_nat a b ha hb
theorem u64_wrap' (n : Int) (m : Nat) (h : n = (m : Int)) (hm : m < 18446744073709551616) : IntKind.u64.wrap n = (m : Int) := by
  subst h; rw [IntKind.wrap_u64]; omega
set_option maxHeartbeats 1000000 in
theorem pop_any (x : Nat) (w : World) (hx : x < 18446744073709551616) :
    Calls Tryd.prog 35 #[.int .u64 (x : Nat)] w fun e w' => e = .returned (.int .i64 (ones x 64 : Nat)) ∧ w = w' := by
  obtain ⟨h0, h1, h2, h3, h4⟩ := pop_parts x hx
  have a1 : bits .and .u64 ((x : Int) / 2) 6148914691236517205 = ((x / 2 &&& 6148914691236517205 : Nat) : Int) := u64_and' (x / 2) 6148914691236517205 _ rfl (by omega) (by omega)
  have a2 : bits .and .u64 (x : Int) 6148914691236517205 = ((x &&& 6148914691236517205 : Nat) : Int) := u64_and' x 6148914691236517205 _ rfl (by omega) (by omega)
  have a3 : IntKind.u64.wrap (((x / 2 &&& 6148914691236517205 : Nat) : Int) + ((x &&& 6148914691236517205 : Nat) : Int)) = ((p1 x : Nat) : Int) := u64_wrap' _ (p1 x) (by unfold p1; omega) h1
  generalize p1 x = y at h0 h1 h2 h3 h4 a3
  have b1 : bits .and .u64 ((y : Int) / 4) 3689348814741910323 = ((y / 4 &&& 3689348814741910323 : Nat) : Int) := u64_and' (y / 4) 3689348814741910323 _ rfl (by omega) (by omega)
  have b2 : bits .and .u64 (y : Int) 3689348814741910323 = ((y &&& 3689348814741910323 : Nat) : Int) := u64_and' y 3689348814741910323 _ rfl (by omega) (by omega)
  have b3 : IntKind.u64.wrap (((y / 4 &&& 3689348814741910323 : Nat) : Int) + ((y &&& 3689348814741910323 : Nat) : Int)) = ((p2 y : Nat) : Int) := u64_wrap' _ (p2 y) (by unfold p2; omega) h2
  generalize p2 y = z at h0 h2 h3 h4 b3
  have c1 : IntKind.u64.wrap ((z : Int) / 16 + (z : Int)) = ((z / 16 + z : Nat) : Int) := u64_wrap' _ (z / 16 + z) (by omega) h3
  have c2 : bits .and .u64 ((z / 16 + z : Nat) : Int) 1085102592571150095 = ((p3 z : Nat) : Int) := u64_and' (z / 16 + z) 1085102592571150095 _ rfl h3 (by omega)
  generalize p3 z = u at h0 h4 c2
  generalize hzz : z / 16 + z = zz at c1 c2
  have d1 : IntKind.u64.wrap ((u : Int) + (u : Int) / 256) = ((u + u / 256 : Nat) : Int) := u64_wrap' _ (u + u / 256) (by omega) (by omega)
  have d2 : IntKind.u64.wrap (((u + u / 256 : Nat) : Int) + ((u + u / 256 : Nat) : Int) / 65536) = (((u + u / 256) + (u + u / 256) / 65536 : Nat) : Int) := u64_wrap' _ ((u + u / 256) + (u + u / 256) / 65536) (by omega) (by omega)
  have d3 : IntKind.u64.wrap ((((u + u / 256) + (u + u / 256) / 65536 : Nat) : Int) + (((u + u / 256) + (u + u / 256) / 65536 : Nat) : Int) / 4294967296) = ((((u + u / 256) + (u + u / 256) / 65536) + ((u + u / 256) + (u + u / 256) / 65536) / 4294967296 : Nat) : Int) := u64_wrap' _ (((u + u / 256) + (u + u / 256) / 65536) + ((u + u / 256) + (u + u / 256) / 65536) / 4294967296) (by omega) (by omega)
  have hl : (((u + u / 256) + (u + u / 256) / 65536) + ((u + u / 256) + (u + u / 256) / 65536) / 4294967296) % 128 = ones x 64 := h0
  have hv : (((u + u / 256) + (u + u / 256) / 65536) + ((u + u / 256) + (u + u / 256) / 65536) / 4294967296) < 9223372036854775808 := by omega
  generalize (((u + u / 256) + (u + u / 256) / 65536) + ((u + u / 256) + (u + u / 256) / 65536) / 4294967296) = v3 at d3 hl hv
  generalize ((u + u / 256) + (u + u / 256) / 65536) = v2 at d2 d3
  generalize (u + u / 256) = v1 at d1 d2
  have d4 : IntKind.i64.wrap (v3 : Int) = (v3 : Int) := IntWalk.i64_in _ (by omega)
  have d5 := i64_and_127 v3 hv
  generalize (x / 2 &&& 6148914691236517205) = q1 at a1 a3
  generalize (x &&& 6148914691236517205) = q2 at a2 a3
  generalize (y / 4 &&& 3689348814741910323) = q3 at b1 b3
  generalize (y &&& 3689348814741910323) = q4 at b2 b3
  have HL := Lib.hid hl
  clear h0 h1 h2 h3 h4 hl hzz hv hx
  go_enter Tryd.func35, Tryd.ntmps35
  go_wp2
  go_ret
  exact ⟨ret_int (by have := HL.out; omega), rfl⟩
theorem add_at (p o j : Nat) : (⟨p, o, none⟩ : Addr).add j = ⟨p, o + j, none⟩ := by unfold Addr.add; split <;> simp_all
/-- A load of whatever a run of it answers. -/
theorem wp_load_at {P : Program} {o : Oper} {a : Act} {w : World} {K : Act → World → Prop} {Q : Exit → Act → World → Prop} (ty : TypeId) (x : Operand) (ho : o.op = .load ty x)
    (ad : Addr) (hx : a.eval x = .pointer (some ad)) (v : Value) (hr : (loadVar ty ad).run P w = .ok v w) (h : K (a.put o.dst v) w) : o.wp P a w K Q := by
  unfold Oper.wp execOp
  simp only [ho, hx, Instr.loadAt, Instr.sureAddr, Sem.run_bind, Sem.run_pure, Result.andThen_ok, hr]
  exact h
theorem wpList_load_at {P : Program} {ops : Array Oper} {rest : List Oper} {o : Oper} {a : Act} {w : World} {Q : Exit → Act → World → Prop} (hgd : o.guard = none) (ty : TypeId) (x : Operand) (ho : o.op = .load ty x)
    (ad : Addr) (hx : a.eval x = .pointer (some ad)) (v : Value) (hr : (loadVar ty ad).run P w = .ok v w) (h : wpList P ops Q rest (a.put o.dst v) w) : wpList P ops Q (o :: rest) a w :=
  wpList_plain hgd fun _ hK => wp_load_at ty x ho ad hx v hr (hK _ _ h)
/-- A whole array, out of memory. -/
theorem load_words {w : World} {p : Nat} {us : List Bool} (h : PM w p us) : (loadVar 57 ⟨p, 1, none⟩).run Tryd.prog w = .ok (.agg (wordsC (natOf us)).toArray) w := by
  have hl : (loadCells ⟨p, 1, none⟩ (wordsC (natOf us)).length).run Tryd.prog w = .ok (wordsC (natOf us)).toArray w :=
    run_loadCells_list (P := Tryd.prog) w ⟨p, 1, none⟩ (wordsC (natOf us)) (fun j v hv => by
      have hj : j < 16 := by have := (List.getElem?_eq_some_iff.1 hv).1; rw [wordsC_length] at this; exact this
      rw [add_at, h.word j hj]
      rw [wordsC_at _ _ hj] at hv
      exact hv)
  rw [wordsC_length] at hl
  simp [loadVar, Sem.run_bind, Tryd.isAgg57, Tryd.sizeOf57, hl]
theorem index_words (N k : Nat) (hk : k < 16) (w : World) : (Instr.index 57 (.agg (wordsC N).toArray) (.int .i64 (k : Nat))).run Tryd.prog w = .ok (.int .u64 (wd N k : Nat)) w := by
  have h := wordsC_at N k hk
  have hk1 : (0 : Int) ≤ (k : Int) ∧ (k : Int) < ((16 : Nat) : Int) := by omega
  have hk2 : k + 1 ≤ 16 := hk
  simp [Instr.index, asIntOf, Sem.run_bind, run_underlying Tryd.underlying57, Tryd.sizeOf55, part, Tryd.isAgg55, h, hk]
theorem len_any (p : Nat) (us : List Bool) (w : World) (h : PM w p us) :
    Calls Tryd.prog 27 #[.pointer (some ⟨p, 0, none⟩)] w fun e w' => e = .returned (.int .i64 (us.length : Nat)) ∧ w = w' := by
  have hc := h.things
  go_enter Tryd.func27, Tryd.ntmps27
  go_wp2
  go_ret
  exact ⟨rfl, rfl⟩
theorem len_nil (w : World) :
    Calls Tryd.prog 27 #[.pointer none] w fun e w' => e = .returned (.int .i64 0) ∧ w = w' := by
  go_enter Tryd.func27, Tryd.ntmps27
  go_wp2
  go_ret
  exact ⟨rfl, rfl⟩
set_option maxHeartbeats 1000000 in
theorem left_any (p : Nat) (us : List Bool) (w : World) (h : PM w p us) (hn : us.length ≤ 1024) :
    Calls Tryd.prog 21 #[.pointer (some ⟨p, 0, none⟩)] w fun e w' => e = .returned (.int .i64 (leftF us : Nat)) ∧ w = w' := by
  have hc := h.things
  have hl := load_words h
  have H0 := Lib.hid (leftTo_zero us)
  obtain ⟨C, hC⟩ : ∃ C, (wordsC (natOf us)).toArray = C := ⟨_, rfl⟩
  rw [hC] at hl
  have HC := Lib.hid hC
  clear h hC
  go_enter Tryd.func21, Tryd.ntmps21
  go_wp2_with (refine wpList_load_at rfl 57 (.tmp 14) rfl ⟨p, 1, none⟩ rfl _ hl ?_)
  go_loop [3, 5, 16] (fun v _ i => ∃ k : Nat, k ≤ 16 ∧ i = .int .i64 k ∧ v = .int .i64 (leftTo us k)) (fun _ _ i => 16 - (intOf i).toNat)
  case atStart => exact ⟨0, by omega, rfl, by rw [H0.out]⟩
  case round =>
    obtain ⟨k, hk, rfl, rfl⟩ := hrel
    clear hl hc
    have hb := leftTo_bd us k hk hn
    by_cases hlt : k < 16
    · have hix : ∀ W, (Instr.index 57 (.agg C) (.int .i64 (k : Nat))).run Tryd.prog W = .ok (.int .u64 (wd (natOf us) k : Nat)) W := fun W => by rw [← HC.out]; exact index_words (natOf us) k hlt W
      have ho := ones_bd (wd (natOf us) k)
      have HS := Lib.hid (leftTo_succ us k)
      have HW := Lib.hid (wd_lt (natOf us) k)
      go_wp2_with (go_at_call 35; (with_reducible refine (pop_any _ _ HW.out).mono ?_); rintro e w' ⟨rfl, rfl⟩)
      go_round
      case rel => exact ⟨k + 1, by omega, by go_num, by rw [HS.out]⟩
      case measure => simp [intOf]; omega
    · obtain rfl : k = 16 := by omega
      have HA := Lib.hid (leftTo_all us hn)
      go_wp2
      go_ret
      exact ⟨ret_int HA.out, rfl⟩
end Go.Proofs.YtaihcbkdbdhihaaDoor
