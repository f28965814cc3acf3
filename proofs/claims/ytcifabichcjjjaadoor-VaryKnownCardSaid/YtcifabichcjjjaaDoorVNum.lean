/-
  What vary.readNumber reads, over this seat's translation; conditions: the variable 'left' is a block of its own that holds a slice of bytes, at most a million of them.
-/
import Derived.Test.YtcifabichcjjjaaDoorVTake
import Derived.Deep.DeepCutAuto
namespace Go.Proofs.YtcifabichcjjjaaDoor
open Go.RowKit

theorem Bs.cell0 {w : World} {v : Value} {c : UInt8} {r : List UInt8} (h : Bs w v (c :: r)) : ∃ a cap, v = .slice (some a) (r.length + 1) cap ∧ r.length + 1 ≤ cap ∧ w.cell? a = some (.int .u8 c.toNat) := by
  obtain ⟨ao, cap, rfl, hc, hn, hcell⟩ := h
  cases ao with
  | none => have := (hn rfl).1; simp at this
  | some a => exact ⟨a, cap, rfl, hc, by have := hcell a rfl 0 (.int .u8 c.toNat) (by simp [bcells]); rwa [Addr.add_zero'] at this⟩
/-- The call answers an error's number, and takes of the bytes that are left alone. -/
def NumErr (w : World) (b c : Nat) (e : Ending) (w' : World) : Prop := e = .returned (.tuple #[.int .u64 0, .int .i64 c]) ∧ w.grownBy w' (some b)

set_option maxHeartbeats 400000 in
theorem readNumber_nil (b : Nat) (w : World) (h : Lf w b []) :
    Calls Tryd.prog 41 #[.func (.func 27) #[] #[.pointer (some ⟨b, 0, none⟩)]] w (NumErr w b 3) := by
  go_enter Tryd.func41, Tryd.ntmps41
  go_wp2_with (go_at_call 27; refine (take_no b [] 1 _ h (by simp)).mono ?_; rintro e w1 ⟨rfl, rfl⟩)
  go_ret2
  exact ⟨rfl, gb_refl _ _⟩

/-- One byte was taken. -/
def Took1 (w : World) (b : Nat) (c : UInt8) (r : List UInt8) (e : Ending) (w' : World) : Prop :=
  ∃ a cap, e = .returned (.tuple #[.slice (some a) 1 cap, .bool true]) ∧ w'.cell? a = some (.int .u8 c.toNat) ∧ 1 ≤ cap ∧ Lf w' b r ∧ w.grownBy w' (some b)
theorem take_one (b : Nat) (c : UInt8) (r : List UInt8) (w : World) (h : Lf w b (c :: r)) (hl : r.length < 1000000) :
    Calls Tryd.prog 27 #[.int .i64 1, .pointer (some ⟨b, 0, none⟩)] w (Took1 w b c r) := by
  refine (take_ok b (c :: r) 1 w h (by simp) (by simp; omega)).mono ?_
  rintro e w' ⟨v, rfl, hb, hl, hg⟩
  obtain ⟨a, cap, rfl, h1, h2⟩ := Bs.cell0 (r := []) hb
  exact ⟨a, cap, rfl, h2, by simpa using h1, hl, hg⟩
theorem nat8_or (d : List UInt8) (j : Nat) (h : j < d.length) (hd : d.length ≤ 8) :
    bits .or .u64 ((nat8 (d.take j) : Int) * 256) (IntKind.u64.wrap (d[j].toNat : Int)) = (nat8 (d.take (j + 1)) : Int) := by
  have hl := nat8_lt (d.take j)
  have hlen : (d.take j).length ≤ 7 := by simp only [List.length_take]; omega
  have hp : 256 ^ (d.take j).length ≤ 256 ^ 7 := Nat.pow_le_pow_right (by omega) hlen
  have h7 : (256 : Nat) ^ 7 = 72057594037927936 := by decide
  rw [List.take_succ_eq_append_getElem h, nat8_snoc]
  exact or_byte _ _ (by omega) d[j].toNat_lt
theorem nat8_small (d : List UInt8) (j : Nat) (h : j < d.length) (hd : d.length ≤ 8) : (nat8 (d.take j) : Int) < 72057594037927936 := by
  have hl := nat8_lt (d.take j)
  have hlen : (d.take j).length ≤ 7 := by simp only [List.length_take]; omega
  have hp : 256 ^ (d.take j).length ≤ 256 ^ 7 := Nat.pow_le_pow_right (by omega) hlen
  have h7 : (256 : Nat) ^ 7 = 72057594037927936 := by decide
  omega
/-- A number was read. -/
def NumGot (w : World) (b n : Nat) (l : List UInt8) (e : Ending) (w' : World) : Prop :=
  e = .returned (.tuple #[.int .u64 n, .int .i64 0]) ∧ Lf w' b l ∧ w.grownBy w' (some b)
set_option maxHeartbeats 400000 in
theorem readNumber_form (b : Nat) (c : UInt8) (r : List UInt8) (w : World) (h : Lf w b (c :: r)) (hc : 8 < c.toNat) (hl : r.length < 1000000) :
    Calls Tryd.prog 41 #[.func (.func 27) #[] #[.pointer (some ⟨b, 0, none⟩)]] w (NumErr w b 5) := by
  have hc' : 8 < (c.toNat : Int) := by omega
  go_enter Tryd.func41, Tryd.ntmps41
  go_wp2_with (go_at_call 27; refine (take_one b c r _ h hl).mono ?_; rintro e w1 ⟨a1, cap1, rfl, c1, k1, l1, g1⟩)
  go_ret2
  exact ⟨rfl, g1⟩

theorem byte_num (k : Nat) (hk : k < 256) : IntKind.i64.wrap (k : Int) = (k : Int) := by
  simp only [IntKind.wrap, IntKind.bits, IntKind.signed]; simp; omega
set_option maxHeartbeats 400000 in
theorem readNumber_short (b : Nat) (c : UInt8) (r : List UInt8) (w : World) (h : Lf w b (c :: r)) (hc : c.toNat ≤ 8) (hl : r.length < 1000000) (hr : r.length < c.toNat) :
    Calls Tryd.prog 41 #[.func (.func 27) #[] #[.pointer (some ⟨b, 0, none⟩)]] w (NumErr w b 3) := by
  have hc' : (c.toNat : Int) ≤ 8 := by omega
  go_enter Tryd.func41, Tryd.ntmps41
  go_wp2_with fail
  refine (take_one b c r _ h hl).mono ?_
  rintro e w1 ⟨a1, cap1, rfl, c1, k1, l1, g1⟩
  go_wp2_with fail
  refine (take_no b r c.toNat _ l1 hr).mono ?_
  rintro e w2 ⟨rfl, rfl⟩
  go_wp2
  go_ret2
  exact ⟨rfl, g1⟩
set_option maxHeartbeats 400000 in
theorem readNumber_nought (b : Nat) (c : UInt8) (r : List UInt8) (w : World) (h : Lf w b (c :: 0 :: r)) (hc : c.toNat ≤ 8) (hc0 : 0 < c.toNat) (hl : r.length + 1 < 1000000) (hr : c.toNat ≤ r.length + 1) :
    Calls Tryd.prog 41 #[.func (.func 27) #[] #[.pointer (some ⟨b, 0, none⟩)]] w (NumErr w b 5) := by
  have hc' : (c.toNat : Int) ≤ 8 := by omega
  obtain ⟨k, hk⟩ : ∃ k : Nat, c.toNat = k + 1 := ⟨c.toNat - 1, by omega⟩
  go_enter Tryd.func41, Tryd.ntmps41
  have HK := Lib.hid hk
  clear hk
  go_wp2_with fail
  refine (take_one b c (0 :: r) _ h (by simp; omega)).mono ?_
  rintro e w1 ⟨a1, cap1, rfl, c1, k1, l1, g1⟩
  go_wp2_with fail
  refine (take_ok b (0 :: r) c.toNat _ l1 (by simp; omega) (by simp; omega)).mono ?_
  rintro e w2 ⟨v2, rfl, b2, l2, g2⟩
  rw [HK.out, List.take_succ_cons] at b2
  obtain ⟨a2, cap2, rfl, k2, c2⟩ := Bs.cell0 b2
  have g3 := gb_trans g1 g2
  clear g1 g2 l2 l1 c1 b2 HK
  go_wp2
  go_ret2
  exact ⟨rfl, g3⟩
set_option maxHeartbeats 1000000 in
theorem readNumber_ok (b : Nat) (c : UInt8) (r : List UInt8) (w : World) (h : Lf w b (c :: r)) (hc : c.toNat ≤ 8) (hl : r.length < 1000000) (hr : c.toNat ≤ r.length) (h0 : (r.take c.toNat).head? ≠ some 0) :
    Calls Tryd.prog 41 #[.func (.func 27) #[] #[.pointer (some ⟨b, 0, none⟩)]] w (NumGot w b (nat8 (r.take c.toNat)) (r.drop c.toNat)) := by
  have hc' : (c.toNat : Int) ≤ 8 := by omega
  obtain ⟨d, hd⟩ : ∃ d : List UInt8, d = r.take c.toNat := ⟨_, rfl⟩
  have hdl : d.length ≤ 8 := by rw [hd]; simp; omega
  rw [← hd] at h0 ⊢
  have HD := Lib.hid hd
  clear hd
  go_enter Tryd.func41, Tryd.ntmps41
  go_wp2_with fail
  refine (take_one b c r _ h hl).mono ?_
  rintro e w1 ⟨a1, cap1, rfl, c1, k1, l1, g1⟩
  go_wp2_with fail
  refine (take_ok b r c.toNat _ l1 hr (by omega)).mono ?_
  rintro e w2 ⟨v2, rfl, b2, l2, g2⟩
  rw [← HD.out] at b2
  have g3 := gb_trans g1 g2
  clear g1 g2 l1 c1 HD
  obtain ⟨ao, cap2, rfl, k2, hn2, hcell⟩ := b2
  cases d with
  | nil =>
    clear hcell hn2 h0
    go_wp2
    go_loop [7, 9, 43] (fun n _ i => i = .int .i64 0 ∧ n = .int .u64 0) (fun _ _ _ => 0)
    case atStart => exact ⟨rfl, rfl⟩
    case round =>
      obtain ⟨rfl, rfl⟩ := hrel
      go_wp2
      go_ret2
      exact ⟨rfl, l2, g3⟩
  | cons x t =>
    have hx : x ≠ 0 := by simpa using h0
    have hx' : ((x.toNat : Int) == 0) = false := by
      have : x.toNat ≠ 0 := fun e => hx (by rw [← UInt8.toNat_inj]; simpa using e)
      simp; omega
    cases ao with
    | none => have := (hn2 rfl).1; simp at this
    | some a2 =>
      have c20 : w2.cell? a2 = some (.int .u8 x.toNat) := by have := hcell a2 rfl 0 (.int .u8 x.toNat) (by simp [bcells]); rwa [Addr.add_zero'] at this
      have HC := Lib.hid (hcell a2 rfl)
      clear hcell hn2 h0 hx
      obtain ⟨d, hd⟩ : ∃ d : List UInt8, d = x :: t := ⟨_, rfl⟩
      have hd2 : t.length + 1 = d.length := by rw [hd]; rfl
      have hl0 : 0 < d.length := by omega
      have HD2 := Lib.hid hd
      rw [← hd] at HC hdl ⊢
      rw [List.length_cons, hd2] at k2
      clear hd hd2
      go_wp2
      go_loop [7, 9, 43] (fun n _ i => ∃ j : Nat, j ≤ d.length ∧ i = .int .i64 j ∧ n = .int .u64 (nat8 (d.take j))) (fun _ _ i => d.length - (intOf i).toNat)
      case atStart => exact ⟨0, Nat.zero_le _, rfl, rfl⟩
      case round =>
        obtain ⟨j, hj, rfl, rfl⟩ := hrel
        by_cases hlt : j < d.length
        · have hb := nat8_small d j hlt hdl
          have HS := Lib.hid (nat8_or d j hlt hdl)
          have cj : w2.cell? (a2.add j) = some (.int .u8 d[j].toNat) := HC.out j _ (by simp [bcells, hlt])
          go_wp2
          go_round
          case rel => exact ⟨j + 1, by omega, by go_num, congrArg (Value.int .u64) HS.out⟩
          case measure => simp [intOf]; omega
        · go_wp2
          go_ret2
          refine ⟨?_, l2, g3⟩
          have e2 := HD2.out
          rw [List.take_of_length_le (by omega), ← e2]
          rfl

end Go.Proofs.YtcifabichcjjjaaDoor
