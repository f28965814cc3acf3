/-
  What the i-th key of a made node is (Made.key of foyerlaw11), over this seat's translation; conditions: its numbers lie, there is an i-th one, and it is below 30.
-/
import Derived.Test.YthhimhjegodklaaGreatNy
namespace Go.Proofs.YthhimhjegodklaaGreat.N11
set_option linter.unusedSimpArgs false
set_option linter.unusedVariables false
open Go.RowKit
theorem made_one (v : Value) (n : Nat) (h : v.cells = #[v]) : madeCells v.cells n = (List.replicate n v).toArray := by
  rw [h]; apply Array.toList_inj.1; rw [toList_madeCells_one]
def zer (n : Nat) : List UInt8 := List.replicate n 0
theorem bytes_zer (n : Nat) : bcells (zer n) = List.replicate n (Value.int .u8 0) := by simp [bcells, zer]
theorem make_zer (n : Nat) (z : Int) (w : World) (hz : z = (n : Int)) (hn : n ≤ 100000) : (Instr.makeSlice 28 (.int .i64 z) (.int .i64 z)).run Tryz.prog w = .ok (.slice (some ⟨w.heap.size, 0, none⟩) n n) (w.alloc (.cells (bcells (zer n)).toArray 5)) := by
  obtain ⟨i0, hi, hz0, hz1, hz2⟩ := info_parts Tryz.info8
  subst hz
  have h := run_make (P := Tryz.prog) w 28 5 i0 (.int .u8 0) Tryz.underlying28 hi hz0 .i64 .i64 (n : Int) (n : Int) (by omega) (by omega) (by rw [hz2]; omega) (by omega)
  rw [hz1, Nat.mul_one, Int.toNat_natCast, made_one _ _ rfl, ← bytes_zer] at h
  exact h
theorem addr_at (p o j : Nat) : (⟨p, o, none⟩ : Addr).add j = ⟨p, o + j, none⟩ := by unfold Addr.add; split <;> simp_all
theorem new_txt (w : World) (l : List UInt8) (n : Nat) (hn : n = l.length) : (convert 28 9 (.slice (some ⟨w.heap.size, 0, none⟩) n n)).run Tryz.prog (w.alloc (.cells (bcells l).toArray 5)) = .ok (.string ⟨l.toArray⟩) (w.alloc (.cells (bcells l).toArray 5)) := by
  subst hn
  refine conv_bs _ _ l ⟨some ⟨w.heap.size, 0, none⟩, l.length, rfl, Nat.le_refl _, (fun e => by cases e), fun a e j u hj => ?_⟩
  cases e
  have h := Blk.cell (Blk.mk w 5 (bcells l).toArray) j (v := u) (by rw [List.getElem?_toArray]; exact hj)
  rw [addr_at, Nat.zero_add]
  exact h
theorem ap_list (a b : ByteArray) : (a ++ b).data.toList = a.data.toList ++ b.data.toList := by simp
theorem ex_list (s : ByteArray) (a b : Nat) : (s.extract a b).data.toList = (s.data.toList.take b).drop a := by
  rw [ByteArray.data_extract, Array.toList_extract]
  simp [List.extract_eq_take_drop, List.drop_take]
def s30 (l : List UInt8) (n : Nat) : List UInt8 := l.take n
/-- The numbers of a made node; its i-th key. -/
def numAt (L : List UInt8) (i : Nat) : Nat := (L.getD i 0).toNat
def keyL (h : ByteArray) (L : List UInt8) (i : Nat) : List UInt8 := h.data.toList.take 30 ++ (UInt8.ofNat (i + 1) :: zer (numAt L i % 9))
def keyF (h : ByteArray) (L : List UInt8) (i : Nat) : ByteArray := ⟨(keyL h L i).toArray⟩
def KeyGot (t : ByteArray) (w : World) (e : Ending) (w' : World) : Prop := e = .returned (.string t) ∧ w.grownBy w' none
set_option maxRecDepth 100000 in
set_option maxHeartbeats 2000000 in
theorem key_any (h : ByteArray) (v : Value) (L : List UInt8) (i : Nat) (w : World) (hv : Bs w v L) (hi : i < L.length) (h30 : i < 30) : Calls Tryz.prog 20 #[.agg #[.string h, v], .int .i64 (i : Nat)] w (KeyGot (keyF h L i) w) := by
  have hcn : ((UInt8.ofNat (i + 1)).toNat : Int) = (i : Int) + 1 := by rw [UInt8.toNat_ofNat']; omega
  have hc1 : ∀ C : Obj, (convert 28 9 (.slice (some ⟨w.heap.size + 1, 0, none⟩) 1 1)).run Tryz.prog ((w.alloc C).alloc (.cells #[.int .u8 ((i : Int) + 1)] 5)) = .ok (.string ⟨#[UInt8.ofNat (i + 1)]⟩) ((w.alloc C).alloc (.cells #[.int .u8 ((i : Int) + 1)] 5)) := by
    intro C
    have h := new_txt (w.alloc C) [UInt8.ofNat (i + 1)] 1 rfl
    have e : (bcells [UInt8.ofNat (i + 1)]).toArray = #[.int .u8 ((i : Int) + 1)] := by rw [← hcn]; rfl
    rw [e] at h
    simpa using h
  obtain ⟨x, hx⟩ : ∃ x, numAt L i = x := ⟨_, rfl⟩
  have hxb : x < 256 := by rw [← hx]; exact UInt8.toNat_lt _
  have hW : wrap64 (x : Int) = x := by unfold wrap64; omega
  have hT : (x : Int).tmod 9 = (x : Int) % 9 := Int.tmod_eq_emod_of_nonneg (by omega)
  have hmk := fun W => make_zer (x % 9) ((x : Int) % 9) W (by omega) (by omega)
  have hc2 : ∀ C D : Obj, (convert 28 9 (.slice (some ⟨w.heap.size + 1 + 1, 0, none⟩) (x % 9) (x % 9))).run Tryz.prog (((w.alloc C).alloc D).alloc (.cells (bcells (zer (x % 9))).toArray 5)) = .ok (.string ⟨(zer (x % 9)).toArray⟩) (((w.alloc C).alloc D).alloc (.cells (bcells (zer (x % 9))).toArray 5)) := by
    intro C D
    have h := new_txt ((w.alloc C).alloc D) (zer (x % 9)) (x % 9) (by simp [zer])
    simpa using h
  obtain ⟨ao, cap, rfl, hcap, hnil, hcell⟩ := hv
  cases ao with
  | none => have := (hnil rfl).1; omega
  | some a =>
    have ha := hcell a rfl i (.int .u8 (x : Nat)) (by rw [← hx]; unfold bcells numAt; rw [List.getElem?_map, List.getD_eq_getElem?_getD, List.getElem?_eq_getElem hi]; rfl)
    have hzl : ¬ 9223372036854775807 < min (min (h.size : Int) 30).toNat h.size + 1 + (zer (x % 9)).length := by unfold zer; rw [List.length_replicate]; omega
    have hA : ∀ C D : Obj, ((w.alloc C).alloc D).cell? (a.add i) = some (.int .u8 (x : Nat)) := fun C D => (gb_trans (gb_alloc w C none) (gb_alloc (w.alloc C) D none)).cell ha (by simp)
    clear hcell ha hnil
    go_enter Tryz.func20, Tryz.ntmps20
    go_wp2
    have hk : h.extract 0 (min (h.size : Int) 30).toNat ++ ⟨#[UInt8.ofNat i + 1]⟩ ++ ⟨(zer (x % 9)).toArray⟩ = keyF h L i := by
      refine ba_of ?_
      rw [ap_list, ap_list, ex_list]
      unfold keyL
      rw [hx]
      have e30 : s30 h.data.toList (min (h.size : Int) 30).toNat = s30 h.data.toList 30 := by
        unfold s30
        by_cases hl : h.size ≤ 30
        · rw [List.take_of_length_le (by rw [size_list]; omega), List.take_of_length_le (by rw [size_list]; omega)]
        · rw [show (min (h.size : Int) 30).toNat = 30 by omega]
      unfold s30 at e30
      rw [List.drop_zero, e30, List.append_assoc, show UInt8.ofNat i + 1 = UInt8.ofNat (i + 1) by simp]
      rfl
    rw [hk]
    go_ret
    exact ⟨rfl, gb_trans (gb_trans (gb_alloc _ _ _) (gb_alloc _ _ _)) (gb_alloc _ _ _)⟩
end Go.Proofs.YthhimhjegodklaaGreat.N11

