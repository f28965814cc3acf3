/-
  The statements' own helpers of layer 4: a sector of one letter, sectors of letters, over this seat's translation; conditions: the slices read as lists.
-/
import Derived.Laws.IdiomStrings
import Derived.Test.YtcoegaipojnndaaDoorFp2
namespace Go.Proofs.YtcoegaipojnndaaDoor
open Go.RowKit

/-- One letter, n times. -/
def rep (n : Nat) (c : UInt8) : List UInt8 := List.replicate n c
theorem rep_length (n : Nat) (c : UInt8) : (rep n c).length = n := List.length_replicate
theorem rep_at (n : Nat) (c : UInt8) (j : Nat) (h : j < n) : (rep n c)[j]? = some c := by unfold rep; rw [List.getElem?_replicate, if_pos h]
theorem rep_succ (n : Nat) (c : UInt8) : rep (n + 1) c = c :: rep n c := List.replicate_succ
theorem rep_snoc (n : Nat) (c : UInt8) : rep (n + 1) c = rep n c ++ [c] := List.replicate_succ'
/-- A sector of one letter. -/
def secS (c : UInt8) : ByteArray := ⟨(rep 256 c).toArray⟩
theorem secS_size (c : UInt8) : (secS c).size = 256 := by
  show (rep 256 c).toArray.size = 256
  rw [List.size_toArray, rep_length]
def fillB (c : UInt8) (k : Nat) : List UInt8 := rep k c ++ rep (256 - k) 0
theorem fillB_length (c : UInt8) (k : Nat) (h : k ≤ 256) : (fillB c k).length = 256 := by unfold fillB; rw [List.length_append, rep_length, rep_length]; omega
theorem fillB_set (c : UInt8) (k : Nat) (h : k < 256) : (fillB c k).set k c = fillB c (k + 1) := by
  unfold fillB
  rw [List.set_append_right _ _ (by rw [rep_length]; omega), rep_length, Nat.sub_self]
  rw [show 256 - k = (256 - (k + 1)) + 1 by omega, rep_succ, List.set_cons_zero, rep_snoc, List.append_assoc]
  rfl
theorem fillB_zero (c : UInt8) : fillB c 0 = rep 256 0 := rfl
theorem fillB_all (c : UInt8) : fillB c 256 = rep 256 c := by unfold fillB; rw [Nat.sub_self]; exact List.append_nil _
theorem u8_back (c : UInt8) : UInt8.ofNat c.toNat = c := by simp
theorem make_sector (w : World) : (Instr.makeSlice 29 (.int .i64 256) (.int .i64 256)).run Tryd.prog w = .ok (.slice (some ⟨w.heap.size, 0, none⟩) 256 256) (w.alloc (.cells (bytesC (rep 256 0)).toArray 5)) := make_bytes 256 256 w rfl (by omega)
def SectorGot (w : World) (c : UInt8) (e : Ending) (w' : World) : Prop := e = .returned (.string (secS c)) ∧ w.grownBy w' none
set_option maxRecDepth 100000 in
set_option maxHeartbeats 1000000 in
theorem sector_any (z : Int) (c : UInt8) (w : World) (hz : z = (c.toNat : Nat)) : Calls Tryd.prog 10 #[.int .u8 z] w (SectorGot w c) := by
  subst hz
  have mk := make_sector w
  go_enter Tryd.func10, Tryd.ntmps10
  go_wp2_with fail
  have k0 : Blk (w.alloc (.cells (bytesC (rep 256 0)).toArray 5)) w.heap.size 5 (bytesC (fillB c 0)).toArray := Blk.mk w 5 (bytesC (rep 256 0)).toArray
  have g0 := gb_alloc w (.cells (bytesC (rep 256 0)).toArray 5) none
  generalize w.alloc (.cells (bytesC (rep 256 0)).toArray 5) = W0 at k0 g0 ⊢
  clear mk
  go_loopw [4] (fun v wr => ∃ k : Nat, k ≤ 256 ∧ v = .int .i64 k ∧ Blk wr w.heap.size 5 (bytesC (fillB c k)).toArray ∧ w.grownBy wr none) (fun v _ => 256 - (intOf v).toNat)
  case atStart => exact ⟨0, by omega, rfl, k0, g0⟩
  case round =>
    clear k0 g0
    obtain ⟨k, hk, rfl, kb, hg⟩ := hrel
    by_cases hlt : k < 256
    · have d0 := kb.cell k (v := .int .u8 (((fillB c k).getD k 0).toNat : Nat)) (by rw [List.getElem?_toArray]; exact bytes_at (by rw [fillB_length c k (by omega)]; omega))
      have e0 := kb.free k
      have hnew : Blk (wr.setCell ⟨w.heap.size, k, none⟩ (.int .u8 (c.toNat : Nat))) w.heap.size 5 (bytesC (fillB c (k + 1))).toArray := by
        rw [← fillB_set c k hlt]
        have := bytes_set (fillB c k) k c.toNat c.toNat_lt
        rw [u8_back] at this
        rw [← this]
        exact kb.set k _
      have HNw := Lib.hid hnew
      clear hnew
      generalize ((fillB c k).getD k 0) = y at d0
      go_wp2
      go_roundw
      case rel => exact ⟨k + 1, by omega, by go_num, HNw.out, gb_step hg (gb_set _ _ _ _ _) (by omega)⟩
      case measure => simp [intOf]; omega
    · obtain rfl : k = 256 := by omega
      have hcv : (convert 29 9 (.slice (some ⟨w.heap.size, 0, none⟩) 256 256)).run Tryd.prog wr = .ok (.string (secS c)) wr := by
        have h := run_convert_bytes_back wr 29 9 5 ⟨w.heap.size, 0, none⟩ 256 (rep 256 c) Tryd.underlying29 Tryd.underlying5 Tryd.underlying9 (fun j hj => by
          rw [add_lit]
          refine kb.cell j ?_
          rw [fillB_all, List.getElem?_toArray, bytes_at hj]
          rw [show (rep 256 c).getD j 0 = (rep 256 c)[j] by rw [List.getD, List.getElem?_eq_getElem hj]; rfl])
        rw [rep_length] at h
        exact h
      go_wp2
      go_ret
      exact ⟨rfl, hg⟩
theorem own_keep0 {w w' : World} {base : Nat} {e : TypeId} {size : Nat} {v : Value} {n : Nat} {xs : List Value} (h : w.ownsRow base e size v n xs) (g : w.grownBy w' none) : w'.ownsRow base e size v n xs :=
  h.kept g (by cases hv : v.ownBlock <;> simp)
/-- Sectors of letters. -/
def secsF (l : List UInt8) : List ByteArray := (l.take 8).map secS
theorem secsF_whole (l : List UInt8) : Whole256 (secsF l) := by
  intro s hs
  unfold secsF at hs
  obtain ⟨c, _, rfl⟩ := List.mem_map.1 hs
  exact secS_size c
theorem secsF_length (l : List UInt8) : (secsF l).length = min 8 l.length := by simp [secsF]
theorem take_snoc {α : Type} (l : List α) (k : Nat) (d : α) (h : k < l.length) : l.take (k + 1) = l.take k ++ [l.getD k d] := by
  rw [List.take_succ_eq_append_getElem h]; simp [List.getD, h]
theorem strsC_snoc (l : List ByteArray) (s : ByteArray) : strsC (l ++ [s]) = strsC l ++ [.string s] := by simp [strsC]
theorem one_str (s : ByteArray) : ∀ u ∈ [Value.string s], u.oneCell' = true := by intro u hu; simp at hu; subst hu; rfl
def SectorsGot (w : World) (l : List UInt8) (e : Ending) (w' : World) : Prop := ∃ v, e = .returned v ∧ Sts w' v (secsF l) ∧ w.grownBy w' none
end Go.Proofs.YtcoegaipojnndaaDoor

