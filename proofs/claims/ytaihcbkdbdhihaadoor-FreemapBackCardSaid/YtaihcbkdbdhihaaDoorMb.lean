/-
  Rows of bytes and of bools of the call's own, and the map's bytes, over this seat's translation; conditions: those that each law states.
-/
import Derived.Test.YtaihcbkdbdhihaaDoorMn
import Derived.Laws.MakeOwn
import Derived.Laws.OwnMore
import Derived.Laws.IdiomStrings
namespace Go.Proofs.YtaihcbkdbdhihaaDoor
open Go.RowKit

theorem Tryd.infoBool : (Tryd.prog.info? 4).map (fun i => (i.zero, i.size, i.bytes)) = some (some (.bool false), 1, 1) := by kernel_rfl
theorem made_one (v : Value) (n : Nat) (h : v.cells = #[v]) : madeCells v.cells n = (List.replicate n v).toArray := by
  rw [h]; apply Array.toList_inj.1; rw [toList_madeCells_one]
theorem bools_false (n : Nat) : bools (List.replicate n false) = List.replicate n (Value.bool false) := by simp [bools]
theorem make_bools (n : Nat) (z : Int) (w : World) (hz : z = (n : Int)) (hn : n ≤ 100000) : (Instr.makeSlice 48 (.int .i64 z) (.int .i64 z)).run Tryd.prog w = .ok (.slice (some ⟨w.heap.size, 0, none⟩) n n) (w.alloc (.cells (bools (List.replicate n false)).toArray 4)) := by
  obtain ⟨i0, hi, hz0, hz1, hz2⟩ := info_parts Tryd.infoBool
  subst hz
  have h := run_make (P := Tryd.prog) w 48 4 i0 (.bool false) Tryd.underlying48 hi hz0 .i64 .i64 (n : Int) (n : Int) (by omega) (by omega) (by rw [hz2]; omega) (by omega)
  rw [hz1, Nat.mul_one, Int.toNat_natCast, made_one _ _ rfl, ← bools_false] at h
  exact h
theorem Tryd.infoByte : (Tryd.prog.info? 5).map (fun i => (i.zero, i.size, i.bytes)) = some (some (.int .u8 0), 1, 1) := by kernel_rfl
theorem bytes_zero (n : Nat) : bytesC (List.replicate n 0) = List.replicate n (Value.int .u8 0) := by simp [bytesC]
theorem make_bytes (n : Nat) (z : Int) (w : World) (hz : z = (n : Int)) (hn : n ≤ 100000) : (Instr.makeSlice 72 (.int .i64 z) (.int .i64 z)).run Tryd.prog w = .ok (.slice (some ⟨w.heap.size, 0, none⟩) n n) (w.alloc (.cells (bytesC (List.replicate n 0)).toArray 5)) := by
  obtain ⟨i0, hi, hz0, hz1, hz2⟩ := info_parts Tryd.infoByte
  subst hz
  have h := run_make (P := Tryd.prog) w 72 5 i0 (.int .u8 0) Tryd.underlying72 hi hz0 .i64 .i64 (n : Int) (n : Int) (by omega) (by omega) (by rw [hz2]; omega) (by omega)
  rw [hz1, Nat.mul_one, Int.toNat_natCast, made_one _ _ rfl, ← bytes_zero] at h
  exact h
theorem bytes_at {l : List UInt8} {j : Nat} (h : j < l.length) : (bytesC l)[j]? = some (.int .u8 ((l.getD j 0).toNat : Nat)) := by simp [bytesC, List.getD_eq_getElem?_getD, h]
theorem bools_at {l : List Bool} {j : Nat} (h : j < l.length) : (bools l)[j]? = some (.bool (l.getD j false)) := by simp [bools, List.getD_eq_getElem?_getD, h]
theorem bytes_set (l : List UInt8) (k : Nat) (c : UInt8) : (bytesC l).toArray.setIfInBounds k (.int .u8 (c.toNat : Nat)) = (bytesC (l.set k c)).toArray := by
  rw [List.setIfInBounds_toArray]
  unfold bytesC
  rw [List.map_set]
theorem bools_set (l : List Bool) (k : Nat) (c : Bool) : (bools l).toArray.setIfInBounds k (.bool c) = (bools (l.set k c)).toArray := by
  rw [List.setIfInBounds_toArray]
  unfold bools
  rw [List.map_set]
/-- A block of bytes, made a text. -/
theorem blk_str {W : World} {b : Nat} {l : List UInt8} (h : Blk W b 5 (bytesC l).toArray) (n : Nat) (hn : n = l.length) :
    (convert 72 9 (.slice (some ⟨b, 0, none⟩) n n)).run Tryd.prog W = .ok (.string ⟨l.toArray⟩) W := by
  subst hn
  exact run_convert_bytes_back W 72 9 5 ⟨b, 0, none⟩ l.length l Tryd.underlying72 Tryd.underlying5 Tryd.underlying9 (fun j hj => by
    rw [add_at, Nat.zero_add, h.cell j (by rw [List.getElem?_toArray]; exact bytes_at hj)]
    simp [List.getD_eq_getElem?_getD, hj])
theorem u8_wrap (x : Nat) : IntKind.u8.wrap (x : Int) = ((x % 256 : Nat) : Int) := by rw [IntKind.wrap_u8']; omega
theorem u8_back {x : Nat} (h : x < 256) : (UInt8.ofNat x).toNat = x := by simp; omega
/-- A map's bytes, as a text. -/
def putB (us : List Bool) : ByteArray := ⟨(putF us).toArray⟩
set_option maxHeartbeats 1000000 in
theorem put_any (p : Nat) (us : List Bool) (w : World) (h : PM w p us) (hn : us.length ≤ 1024) :
    Calls Tryd.prog 26 #[.pointer (some ⟨p, 0, none⟩)] w fun e w' => e = .returned (.string (putB us)) ∧ w.grownBy w' none := by
  have hc := h.things
  have HP := Lib.hid h
  have hplt := h.lt
  clear h
  obtain ⟨S, hS⟩ : ∃ S, (us.length + 7) / 8 = S := ⟨_, rfl⟩
  have HSz := Lib.hid (fun W => by have := sizeFor_any us.length W (by omega); rw [hS] at this; exact this : ∀ W, Calls Tryd.prog 36 #[.int .i64 (us.length : Nat)] W fun e w' => e = .returned (.int .i64 (S : Nat)) ∧ W = w')
  have hSb : S ≤ 128 := by omega
  have HS := Lib.hid hS
  clear hS
  have mk : ∀ W, (Instr.makeSlice 72 (.int .i64 (S : Nat)) (.int .i64 (S : Nat))).run Tryd.prog W = .ok (.slice (some ⟨W.heap.size, 0, none⟩) S S) (W.alloc (.cells (bytesC (List.replicate S 0)).toArray 5)) := fun W => make_bytes S (S : Nat) W rfl (by omega)
  go_enter Tryd.func26, Tryd.ntmps26
  go_wp2_with (go_at_call 36; (with_reducible refine (HSz.out _).mono ?_); rintro e w' ⟨rfl, rfl⟩)
  have k0 := Blk.mk w 5 (bytesC (List.replicate S 0)).toArray
  have g0 := gb_alloc w (.cells (bytesC (List.replicate S 0)).toArray 5) none
  generalize w.alloc (.cells (bytesC (List.replicate S 0)).toArray 5) = W0 at k0 g0 ⊢
  have hz0 : putUp us 0 = List.replicate S 0 := by rw [putUp_zero, HS.out]
  rw [← hz0] at k0
  have HG := Lib.hid g0
  clear hz0 mk g0
  go_loopw [4, 15] (fun _ v wr => ∃ k : Nat, k ≤ S ∧ v = .int .i64 k ∧ Blk wr w.heap.size 5 (bytesC (putUp us k)).toArray ∧ w.grownBy wr none) (fun _ v _ => S - (intOf v).toNat)
  case atStart => exact ⟨0, by omega, rfl, k0, HG.out⟩
  case round =>
    obtain ⟨k, hk, rfl, bk, hg⟩ := hrel
    have hlen : (putUp us k).length = S := by rw [putUp_length, HS.out]
    clear k0 hc
    by_cases hlt : k < S
    · have hw := (HP.out.keep0 hg).word (k / 8) (by omega)
      have b0 := bk.cell k (v := .int .u8 (((putUp us k).getD k 0).toNat : Nat)) (by rw [List.getElem?_toArray]; exact bytes_at (by omega))
      have f0 := bk.free k
      generalize ((putUp us k).getD k 0).toNat = c at b0
      obtain ⟨s, hs⟩ : ∃ s, k % 8 * 8 = s := ⟨_, rfl⟩
      have hs2 : s ≤ 56 := by omega
      have HSh := Lib.hid (fun W => by have := shiftOf_any k W (by omega); rw [hs] at this; exact this : ∀ W, Calls Tryd.prog 40 #[.int .i64 (k : Nat)] W fun e w' => e = .returned (.int .i64 (s : Nat)) ∧ W = w')
      have hq : IntKind.i64.wrap ((k : Int) / 8) = ((k / 8 : Nat) : Int) := by rw [show (k : Int) / 8 = ((k / 8 : Nat) : Int) from by omega]; exact IntWalk.i64_in _ (by omega)
      have hval : IntKind.u8.wrap (((wd (natOf us) (k / 8) : Nat) : Int) / 2 ^ s) = (((UInt8.ofNat (byN (natOf us) k)).toNat : Nat) : Int) := by
        rw [int_div_pow, u8_wrap, ← hs, wd_byte, u8_back (byN_lt _ _)]
      have hnew : Blk ((wr.setCell ⟨w.heap.size, k, none⟩ (.int .u8 (IntKind.u8.wrap (((wd (natOf us) (k / 8) : Nat) : Int) / 2 ^ s)))).drew) w.heap.size 5 (bytesC (putUp us (k + 1))).toArray := by
        rw [hval, putUp_succ, ← bytes_set]
        exact bk.set k _
      have HN := Lib.hid hnew
      have HGG := Lib.hid hg
      clear hval hnew bk hg
      go_wp2
      go_region_with (go_at_call 40; (with_reducible refine (HSh.out _).mono ?_); rintro e w' ⟨rfl, rfl⟩)
      all_goals
        go_wp2
        go_roundw
        case rel => exact ⟨k + 1, by omega, by go_num, HN.out, gb_step (gb_step HGG.out (gb_set _ _ _ _ _) (Nat.le_refl _)) (gb_weak (gb_drew _ _) (some w.heap.size)) (Nat.le_refl _)⟩
        case measure => simp [intOf]; omega
    · obtain rfl : k = S := by omega
      have hst := blk_str bk k (by rw [hlen])
      have hall : putUp us k = putF us := by rw [← HS.out]; exact putUp_all us
      rw [hall] at hst
      have HGG := Lib.hid hg
      clear hall hg
      go_wp2
      go_ret
      exact ⟨rfl, HGG.out⟩
theorem put_nil (w : World) :
    Calls Tryd.prog 26 #[.pointer none] w fun e w' => e = .returned (.string ⟨#[]⟩) ∧ w = w' := by
  go_enter Tryd.func26, Tryd.ntmps26
  go_wp2
  go_ret
  exact ⟨rfl, rfl⟩
end Go.Proofs.YtaihcbkdbdhihaaDoor
