/-
  What the statements' 'alike' and the document's 'Same' answer of two slices of fields that read as one list, over this seat's translation: true; condition: the list has at most a million fields.
-/
import Derived.Test.YtcifabichcjjjaaDoorVFew
namespace Go.Proofs.YtcifabichcjjjaaDoor
open Go.RowKit

theorem Tryd.eqlField (tag : Int) (text : Bool) (n : Int) (s : ByteArray) (w : World) : (binOp .eql 29 (.agg #[.int .i64 tag, .bool text, .int .u64 n, .string s]) (.agg #[.int .i64 tag, .bool text, .int .u64 n, .string s])).run Tryd.prog w = .ok (.bool true) w := by
  have u3 := Tryd.underlying3
  have a3 := Tryd.isAgg3
  have z3 := Tryd.sizeOf3
  have u4 := Tryd.underlying4
  have a4 := Tryd.isAgg4
  have z4 := Tryd.sizeOf4
  have u5 := Tryd.underlying27
  have a5 := Tryd.isAgg27
  have z5 := Tryd.sizeOf27
  have u6 := Tryd.underlying9
  have a6 := Tryd.isAgg9
  have z6 := Tryd.sizeOf9
  rw [run_eql_struct, show (10000 : Nat) = 9999 + 1 from rfl, run_equalIn_agg w 9999 29 _ _ (by kernel_rfl) (by kernel_rfl)]
  simp only [Program.fieldsOf, Tryd.underlying29]
  go_simp
theorem Tryd.neqField (tag : Int) (text : Bool) (n : Int) (s : ByteArray) (w : World) : (binOp .neq 29 (.agg #[.int .i64 tag, .bool text, .int .u64 n, .string s]) (.agg #[.int .i64 tag, .bool text, .int .u64 n, .string s])).run Tryd.prog w = .ok (.bool false) w := by
  have u3 := Tryd.underlying3
  have a3 := Tryd.isAgg3
  have z3 := Tryd.sizeOf3
  have u4 := Tryd.underlying4
  have a4 := Tryd.isAgg4
  have z4 := Tryd.sizeOf4
  have u5 := Tryd.underlying27
  have a5 := Tryd.isAgg27
  have z5 := Tryd.sizeOf27
  have u6 := Tryd.underlying9
  have a6 := Tryd.isAgg9
  have z6 := Tryd.sizeOf9
  rw [run_neq_struct, show (10000 : Nat) = 9999 + 1 from rfl, run_equalIn_agg w 9999 29 _ _ (by kernel_rfl) (by kernel_rfl)]
  simp only [Program.fieldsOf, Tryd.underlying29]
  go_simp

set_option maxHeartbeats 1000000 in
theorem alike_same (va vb : Value) (l : List Fd) (w : World) (ha : Fs w va l) (hb : Fs w vb l) (hl : l.length ≤ 1000000) :
    Calls Tryd.prog 19 #[va, vb] w fun e w' => e = .returned (.bool true) ∧ w.grownBy w' none := by
  obtain ⟨ao, ca, rfl, hca, hna, hcella⟩ := ha
  obtain ⟨bo, cb, rfl, hcb, hnb, hcellb⟩ := hb
  have HA := Lib.hid hcella
  have HB := Lib.hid hcellb
  have NA := Lib.hid hna
  have NB := Lib.hid hnb
  clear hcella hcellb hna hnb
  have hneq := Tryd.neqField
  have h0 : ((l.length : Int) != (l.length : Int)) = false := by simp
  go_enter Tryd.func19, Tryd.ntmps19
  go_wp2
  go_loopw [5] (fun i wr => ∃ k : Nat, k ≤ l.length ∧ i = .int .i64 k ∧ w.grownBy wr none) (fun i _ => l.length - (intOf i).toNat)
  case atStart => exact ⟨0, by omega, rfl, gb_refl _ _⟩
  case round =>
    obtain ⟨k, hk, rfl, hg⟩ := hrel
    by_cases hlt : k < l.length
    · rcases hf : l[k] with ⟨tag, text, n, s⟩
      have hget : l[k]? = some ⟨tag, text, n, s⟩ := by rw [List.getElem?_eq_getElem hlt, hf]
      cases ao with
      | none => have := (NA.out rfl).1; omega
      | some a =>
        cases bo with
        | none => have := (NB.out rfl).1; omega
        | some b =>
          obtain ⟨a0, a1, a2, a3⟩ := at_of (fun j u hj => hg.cell (HA.out a rfl j u hj) (by simp)) hget
          obtain ⟨b0, b1, b2, b3⟩ := at_of (fun j u hj => hg.cell (HB.out b rfl j u hj) (by simp)) hget
          clear hget hf
          have hk0 : (0 : Int) ≤ (k : Int) := Int.natCast_nonneg _
          have hk1 : (k : Int) < (l.length : Int) := by omega
          go_wp2
          go_quiet (fail)
          go_wp2
          go_roundw
          case rel => exact ⟨k + 1, by omega, by go_num, gb_trans hg (gb_drewN _ _ _)⟩
          case measure => simp [intOf]; omega
    · go_wp2
      go_ret
      exact ⟨rfl, hg⟩

set_option maxHeartbeats 1000000 in
theorem ref_same (va vb : Value) (l : List Fd) (w : World) (ha : Fs w va l) (hb : Fs w vb l) (hl : l.length ≤ 1000000) :
    Calls Tryd.prog 18 #[va, vb] w fun e w' => e = .returned (.bool true) ∧ w.grownBy w' none := by
  obtain ⟨ao, ca, rfl, hca, hna, hcella⟩ := ha
  obtain ⟨bo, cb, rfl, hcb, hnb, hcellb⟩ := hb
  have HA := Lib.hid hcella
  have HB := Lib.hid hcellb
  have NA := Lib.hid hna
  have NB := Lib.hid hnb
  clear hcella hcellb hna hnb
  have hneq := Tryd.neqField
  have h0 : ((l.length : Int) != (l.length : Int)) = false := by simp
  go_enter Tryd.func18, Tryd.ntmps18
  go_wp2
  go_loopw [5] (fun i wr => ∃ k : Nat, k ≤ l.length ∧ i = .int .i64 k ∧ w.grownBy wr none) (fun i _ => l.length - (intOf i).toNat)
  case atStart => exact ⟨0, by omega, rfl, gb_refl _ _⟩
  case round =>
    obtain ⟨k, hk, rfl, hg⟩ := hrel
    by_cases hlt : k < l.length
    · rcases hf : l[k] with ⟨tag, text, n, s⟩
      have hget : l[k]? = some ⟨tag, text, n, s⟩ := by rw [List.getElem?_eq_getElem hlt, hf]
      cases ao with
      | none => have := (NA.out rfl).1; omega
      | some a =>
        cases bo with
        | none => have := (NB.out rfl).1; omega
        | some b =>
          obtain ⟨a0, a1, a2, a3⟩ := at_of (fun j u hj => hg.cell (HA.out a rfl j u hj) (by simp)) hget
          obtain ⟨b0, b1, b2, b3⟩ := at_of (fun j u hj => hg.cell (HB.out b rfl j u hj) (by simp)) hget
          clear hget hf
          have hk0 : (0 : Int) ≤ (k : Int) := Int.natCast_nonneg _
          have hk1 : (k : Int) < (l.length : Int) := by omega
          go_wp2
          go_quiet (fail)
          go_wp2
          go_roundw
          case rel => exact ⟨k + 1, by omega, by go_num, gb_trans hg (gb_drewN _ _ _)⟩
          case measure => simp [intOf]; omega
    · go_wp2
      go_ret
      exact ⟨rfl, hg⟩
end Go.Proofs.YtcifabichcjjjaaDoor
