/-
  What Seal answers of any kind and text, over this seat's translation; no conditions beside the model's own.
-/
import Derived.Test.YthemolnhncjlmaaDoorCp
namespace Go.Proofs.YthemolnhncjlmaaDoor
open Go.RowKit

/-- What Seal answers: no text and a code, or the sealed bytes. -/
def sealE (k : Int) (b : List UInt8) : Nat := if k < 1 ∨ 255 < k then 6 else if 240 < b.length then 4 else 0
def sealS (k : Int) (b : List UInt8) : List UInt8 := if sealE k b = 0 then sealF k.toNat b else []
/-- What is sealed. -/
def Sealed (w : World) (k : Int) (b : List UInt8) (e : Ending) (w' : World) : Prop :=
  e = .returned (.tuple #[.string ⟨(sealS k b).toArray⟩, .int .i64 (sealE k b : Nat)]) ∧ w.grownBy w' none
set_option maxHeartbeats 1000000 in
theorem seal_kind (k : Int) (s : ByteArray) (w : World) (hk : k < 1 ∨ 255 < k) :
    Calls Tryd.prog 7 #[.int .i64 k, .string s] w (Sealed w k s.data.toList) := by
  have he : sealE k s.data.toList = 6 := if_pos hk
  have hs : sealS k s.data.toList = [] := by unfold sealS; rw [he, if_neg (by decide)]
  have HE := Lib.hid he
  have HS := Lib.hid hs
  clear he hs
  rcases hk with hk | hk
  · go_enter Tryd.func7, Tryd.ntmps7
    go_wp2
    go_ret2
    exact ⟨by rw [HE.out, HS.out]; rfl, gb_refl _ _⟩
  · have hk0 : ¬ k < 1 := by omega
    go_enter Tryd.func7, Tryd.ntmps7
    go_wp2
    go_ret2
    exact ⟨by rw [HE.out, HS.out]; rfl, gb_refl _ _⟩
set_option maxHeartbeats 1000000 in
theorem seal_long (k : Int) (s : ByteArray) (w : World) (h1 : 1 ≤ k) (h2 : k ≤ 255) (hl : 240 < s.size) :
    Calls Tryd.prog 7 #[.int .i64 k, .string s] w (Sealed w k s.data.toList) := by
  have he : sealE k s.data.toList = 4 := by unfold sealE; rw [if_neg (by omega), if_pos (by exact hl)]
  have hs : sealS k s.data.toList = [] := by unfold sealS; rw [he, if_neg (by decide)]
  have HE := Lib.hid he
  have HS := Lib.hid hs
  clear he hs
  have hk0 : ¬ k < 1 := by omega
  have hk1 : ¬ 255 < k := by omega
  have hl1 : 240 < (s.size : Int) := by omega
  go_enter Tryd.func7, Tryd.ntmps7
  go_wp2
  go_ret2
  exact ⟨by rw [HE.out, HS.out]; rfl, gb_refl _ _⟩
theorem sec_first (w : World) (k : Nat) (hk : k < 256) : Sec (w.alloc (.cells (Tryd.zeroCells47.setIfInBounds 0 (.int .u8 (k : Nat))) 47)) w.heap.size ((rep 256).set 0 (UInt8.ofNat k)) := by
  refine ⟨?_, by rw [List.length_set]; exact rep_length _⟩
  have e : Tryd.zeroCells47.setIfInBounds 0 (.int .u8 (k : Nat)) = (bcells ((rep 256).set 0 (UInt8.ofNat k))).toArray := by
    rw [zero_cells, List.setIfInBounds_toArray]
    unfold bcells
    rw [List.map_set, u8_of k hk]
  rw [e]
  exact Blk.mk _ _ _
theorem head_put (k : Nat) (b : List UInt8) (h : b.length ≤ 240) : putAt ((rep 256).set 0 (UInt8.ofNat k)) 1 (digits b.length 1 ++ b) = headF k b ++ rep 4 := by
  have e1 : (rep 256).set 0 (UInt8.ofNat k) = UInt8.ofNat k :: rep 255 := by
    rw [show rep 256 = 0 :: rep 255 from List.replicate_succ]; rfl
  have e2 : digits b.length 1 = [UInt8.ofNat b.length] := by
    show [UInt8.ofNat (b.length % 256)] = _
    rw [Nat.mod_eq_of_lt (by omega)]
  have e3 : rep (254 - b.length) = rep (250 - b.length) ++ rep 4 := by rw [← rep_add]; congr 1; omega
  unfold putAt
  rw [e1, e2]
  show UInt8.ofNat k :: ([] ++ (UInt8.ofNat b.length :: b)) ++ (UInt8.ofNat k :: rep 255).drop (1 + (b.length + 1)) = _
  rw [show 1 + (b.length + 1) = (b.length + 1) + 1 by omega, List.drop_succ_cons, rep_drop, show 255 - (b.length + 1) = 254 - b.length by omega, e3]
  simp [headF]
theorem seal_put (k : Nat) (b : List UInt8) (h : b.length ≤ 240) (r : List UInt8) (hr : r.length = 4) : putAt (headF k b ++ rep 4) 252 r = headF k b ++ r := by
  unfold putAt
  have hl := headF_length k b (by omega)
  rw [List.take_append_of_le_length (by omega), List.take_of_length_le (by omega), hr, List.drop_eq_nil_of_le (by simp [hl, rep_length]), List.append_nil]
set_option maxRecDepth 100000 in
set_option maxHeartbeats 2000000 in
theorem seal_good (k : Nat) (s : ByteArray) (w : World) (h1 : 1 ≤ k) (h2 : k ≤ 255) (hl : s.size ≤ 240) :
    Calls Tryd.prog 7 #[.int .i64 (k : Nat), .string s] w (Sealed w k s.data.toList) := by
  have he : sealE k s.data.toList = 0 := by unfold sealE; rw [if_neg (by omega), if_neg (by show ¬ 240 < s.size; omega)]
  have hs : sealS k s.data.toList = sealF k s.data.toList := by unfold sealS; rw [he, if_pos rfl, Int.toNat_natCast]
  have HE := Lib.hid he
  have HS := Lib.hid hs
  clear he hs
  have hk0 : ¬ (k : Int) < 1 := by omega
  have hk1 : ¬ 255 < (k : Int) := by omega
  have hl1 : ¬ 240 < (s.size : Int) := by omega
  have hkw : IntKind.u8.wrap (k : Int) = (k : Int) := by rw [IntKind.wrap_u8']; omega
  go_enter Tryd.func7, Tryd.ntmps7
  go_wp2
  have S1 := sec_first w k (by omega)
  have g0 := gb_alloc w (.cells (Tryd.zeroCells47.setIfInBounds 0 (.int .u8 (k : Nat))) 47) none
  generalize w.alloc (.cells (Tryd.zeroCells47.setIfInBounds 0 (.int .u8 (k : Nat))) 47) = W1 at S1 g0 ⊢
  have HP := Lib.hid (head_put k s.data.toList hl)
  have hsl : s.data.toList.length = s.size := rfl
  rw [hsl] at HP
  have HL := Lib.hid hl
  have HS1 := Lib.hid S1
  have HG0 := Lib.hid g0
  clear S1 g0 hl hsl
  go_region_with (go_at_call 16
                  (with_reducible refine (ptext_ok _ [] s _ (Bs.nil _) (by have := HL.out; omega) (by simp)).mono ?_)
                  rintro e w2 ⟨v2, rfl, o2, g2⟩
                  have cp := fun ty => copy_bs (HS1.out.keep0 (gb_trans (gb_drew _ _) g2)) (Bs.of_owns o2) 1 255 255 (by simp [digits_length]; have := HL.out; omega) (by simp [digits_length]; have := HL.out; omega) (by simp [digits]) ty)
  have S2 : Sec (w2.setRow w.heap.size (bcells (putAt ((rep 256).set 0 (UInt8.ofNat k)) 1 (digits s.size 1 ++ s.data.toList))).toArray) w.heap.size (putAt ((rep 256).set 0 (UInt8.ofNat k)) 1 (digits s.size 1 ++ s.data.toList)) :=
    (HS1.out.keep0 (gb_trans (gb_drew _ _) g2)).row 1 _ (by simp [digits_length]; have := HL.out; omega)
  have G2 : w.grownBy (w2.setRow w.heap.size (bcells (putAt ((rep 256).set 0 (UInt8.ofNat k)) 1 (digits s.size 1 ++ s.data.toList))).toArray) none := gb_step (gb_trans HG0.out (gb_trans (gb_drew _ _) g2)) (gb_setRow _ _ _) (Nat.le_refl _)
  rw [HP.out] at S2 G2 ⊢
  generalize w2.setRow w.heap.size (bcells (headF k s.data.toList ++ rep 4)).toArray = W2 at S2 G2 ⊢
  have ht : (headF k s.data.toList ++ rep 4).take 252 = headF k s.data.toList := by
    rw [List.take_append_of_le_length (by rw [headF_length _ _ (by have := HL.out; show s.size ≤ _; omega)]; exact Nat.le_refl _)]
    exact List.take_of_length_le (by rw [headF_length _ _ (by have := HL.out; show s.size ≤ _; omega)]; exact Nat.le_refl _)
  have hsp := seal_put k s.data.toList HL.out (sumF (headF k s.data.toList)) (sumF_length _)
  generalize hh : headF k s.data.toList = h at S2 G2 ht hsp
  have HH := Lib.hid hh
  have HT := Lib.hid ht
  have HSP := Lib.hid hsp
  have HS2 := Lib.hid S2
  have HG2 := Lib.hid G2
  clear hh ht hsp S2 G2 cp o2 g2
  go_wp2
  go_region_with (go_at_call 17
                  (with_reducible refine (right_any _ _ _ (HS2.out.keep0 (gb_drew _ _))).mono ?_)
                  rintro e w3 ⟨v3, rfl, b3, g3⟩
                  rw [HT.out] at b3
                  have cp := fun ty => copy_bs (HS2.out.keep0 (gb_trans (gb_drew _ _) g3)) b3 252 4 4 (by rw [sumF_length]; omega) (by rw [sumF_length]; exact Nat.le_refl _) (fun e => by have := congrArg List.length e; rw [sumF_length] at this; cases this) ty)
  have S3 : Sec (w3.setRow w.heap.size (bcells (putAt (h ++ rep 4) 252 (sumF h))).toArray) w.heap.size (putAt (h ++ rep 4) 252 (sumF h)) :=
    (HS2.out.keep0 (gb_trans (gb_drew _ _) g3)).row 252 _ (by rw [sumF_length]; omega)
  have G3 : w.grownBy (w3.setRow w.heap.size (bcells (putAt (h ++ rep 4) 252 (sumF h))).toArray) none := gb_step (gb_trans HG2.out (gb_trans (gb_drew _ _) g3)) (gb_setRow _ _ _) (Nat.le_refl _)
  rw [HSP.out] at S3 G3 ⊢
  generalize w3.setRow w.heap.size (bcells (h ++ sumF h)).toArray = W3 at S3 G3 ⊢
  have hst := S3.str 0 256 256 (by omega) (by omega)
  rw [List.drop_zero, List.take_of_length_le (by rw [S3.2]; exact Nat.le_refl _)] at hst
  have HG3 := Lib.hid G3
  clear S3 G3 cp b3 g3
  go_wp2
  go_ret2
  refine ⟨?_, HG3.out⟩
  rw [HE.out, HS.out]
  unfold sealF
  rw [HH.out]
  rfl
theorem seal_any (k : Int) (s : ByteArray) (w : World) :
    Calls Tryd.prog 7 #[.int .i64 k, .string s] w (Sealed w k s.data.toList) := by
  by_cases h : k < 1 ∨ 255 < k
  · exact seal_kind k s w h
  · by_cases h2 : 240 < s.size
    · exact seal_long k s w (by omega) (by omega) h2
    · obtain ⟨n, rfl⟩ : ∃ n : Nat, k = (n : Int) := ⟨k.toNat, by omega⟩
      exact seal_good n s w (by omega) (by omega) (by omega)
end Go.Proofs.YthemolnhncjlmaaDoor
