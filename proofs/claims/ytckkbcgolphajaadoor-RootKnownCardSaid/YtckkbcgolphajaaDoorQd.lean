/-
  What the statements' own blank, turned and drafted answer, over this seat's translation; conditions: those that each law states.
-/
import Derived.Test.YtckkbcgolphajaaDoorQe
import Derived.Test.YtckkbcgolphajaaDoorQb
namespace Go.Proofs.YtckkbcgolphajaaDoor
open Go.RowKit

theorem blank_any (w : World) : Calls Tryd.prog 20 #[] w (TextGot w (zer 256)) := by
  have mk := make_bytes 256 256 w rfl (by decide)
  have hc := new_text w (zer 256) 256 (zer_length 256).symm
  have g := gb_alloc w (.cells (bytesC (zer 256)).toArray 5) none
  generalize w.alloc (.cells (bytesC (zer 256)).toArray 5) = w1 at mk hc g
  obtain ⟨t, ht⟩ : ∃ t : ByteArray, t = ⟨(zer 256).toArray⟩ := ⟨_, rfl⟩
  rw [← ht] at hc
  have HT := Lib.hid (show t.data.toList = zer 256 by rw [ht])
  clear ht
  go_enter Tryd.func20, Tryd.ntmps20
  go_wp2
  go_ret
  exact ⟨t, rfl, HT.out, g⟩
def turnF (l : List UInt8) (at' by' : UInt8) : List UInt8 := l.set (at'.toNat % l.length) (l.getD (at'.toNat % l.length) 0 ^^^ by')
theorem turnF_length (l : List UInt8) (a b : UInt8) : (turnF l a b).length = l.length := by simp [turnF]
/-- A text with a byte turned. -/
def turnB (s : ByteArray) (a b : UInt8) : ByteArray := ⟨(turnF s.data.toList a b).toArray⟩
theorem turnB_size (s : ByteArray) (a b : UInt8) : (turnB s a b).size = s.size := by
  show (turnF s.data.toList a b).toArray.size = _
  rw [List.size_toArray, turnF_length]; rfl
set_option maxHeartbeats 1000000 in
theorem turned_none (s : ByteArray) (w : World) (a b : UInt8) (hs : s.size = 0) : Calls Tryd.prog 17 #[.string s, .int .u8 (a.toNat : Nat), .int .u8 (b.toNat : Nat)] w fun e w' => e = .returned (.string (turnB s a b)) ∧ w.grownBy w' none := by
  obtain rfl : s = ⟨#[]⟩ := by
    apply ByteArray.ext; apply Array.toList_inj.1
    exact List.eq_nil_of_length_eq_zero hs
  rw [show turnB ⟨#[]⟩ a b = ⟨#[]⟩ from rfl]
  obtain ⟨cap, W2, hc, hr, hb, hsz⟩ := brow_new w ⟨#[]⟩
  have hc : (convert 9 43 (.string ⟨#[]⟩)).run Tryd.prog w = .ok (.slice (some ⟨w.heap.size, 0, none⟩) 0 cap) W2 := hc
  have hback := brow_str hr 0 cap rfl
  have hback : (convert 43 9 (.slice (some ⟨w.heap.size, 0, none⟩) 0 cap)).run Tryd.prog W2 = .ok (.string ⟨#[]⟩) W2 := hback
  have g := gb_of_below hb
  clear hr hb hsz
  go_enter Tryd.func17, Tryd.ntmps17
  go_wp2
  go_ret
  exact ⟨rfl, g⟩
set_option maxHeartbeats 1000000 in
theorem turned_some (s : ByteArray) (w : World) (a b : UInt8) (hs : 0 < s.size) (h2 : s.size ≤ 1000) : Calls Tryd.prog 17 #[.string s, .int .u8 (a.toNat : Nat), .int .u8 (b.toNat : Nat)] w fun e w' => e = .returned (.string (turnB s a b)) ∧ w.grownBy w' none := by
  obtain ⟨cap, W2, hc, hr, hb, hsz⟩ := brow_new w s
  obtain ⟨k, hk⟩ : ∃ k, a.toNat % s.size = k := ⟨_, rfl⟩
  have hks : k < s.size := by rw [← hk]; exact Nat.mod_lt _ hs
  have hkl : k < s.data.toList.length := hks
  have hcell := (hr k hkl).1
  have hfree := (hr k hkl).2
  obtain ⟨c, hce⟩ : ∃ c, s.data.toList[k] = c := ⟨_, rfl⟩
  have hx := xor_byte c b
  have hset := brow_set hr hkl (c ^^^ b) rfl
  have hback := brow_str hset s.size cap (by rw [List.length_set]; rfl)
  have e : turnB s a b = ⟨(s.data.toList.set k (c ^^^ b)).toArray⟩ := by
    unfold turnB turnF
    rw [show s.data.toList.length = s.size from rfl, hk, List.getD_eq_getElem?_getD, List.getElem?_eq_getElem hkl, hce]; rfl
  have HG := Lib.hid (show w.grownBy (W2.setCell ⟨w.heap.size, k, none⟩ (.int .u8 ((c ^^^ b).toNat : Nat))) none from gb_step (gb_of_below hb) (gb_set _ _ _ _ _) (Nat.le_refl _))
  rw [hce] at hcell
  have hrem : (a.toNat : Int) % (s.size : Int) = (k : Int) := by rw [← hk]; exact (Int.natCast_emod _ _).symm
  have hmod : (a.toNat : Int).tmod (s.size : Int) = (k : Int) := by rw [Int.tmod_eq_emod_of_nonneg (by omega)]; exact hrem
  have hz0 : ((s.size : Int) == 0) = false := by rw [beq_eq_false_iff_ne]; omega
  have ha := a.toNat_lt
  have hpos : (0 : Int) < (s.size : Int) := by omega
  rw [e]
  clear e hset hr hb hsz hce hk
  generalize (⟨(s.data.toList.set k (c ^^^ b)).toArray⟩ : ByteArray) = u at hback
  generalize (c ^^^ b).toNat = x at hx hback HG
  go_enter Tryd.func17, Tryd.ntmps17
  go_wp2
  go_ret
  exact ⟨rfl, HG.out⟩
theorem turned_any (s : ByteArray) (w : World) (a b : UInt8) (h2 : s.size ≤ 1000) : Calls Tryd.prog 17 #[.string s, .int .u8 (a.toNat : Nat), .int .u8 (b.toNat : Nat)] w fun e w' => e = .returned (.string (turnB s a b)) ∧ w.grownBy w' none := by
  rcases Nat.eq_zero_or_pos s.size with h | h
  · exact turned_none s w a b h
  · exact turned_some s w a b h h2
end Go.Proofs.YtckkbcgolphajaaDoor
