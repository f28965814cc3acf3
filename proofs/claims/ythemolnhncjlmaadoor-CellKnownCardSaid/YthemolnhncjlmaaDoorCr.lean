/-
  What the document's own Seal answers, over this seat's translation; no conditions beside the model's own.
-/
import Derived.Test.YthemolnhncjlmaaDoorCs
import Derived.Laws.MakeOwn
namespace Go.Proofs.YthemolnhncjlmaaDoor
open Go.RowKit

theorem made_one (v : Value) (n : Nat) (h : v.cells = #[v]) : madeCells v.cells n = (List.replicate n v).toArray := by
  rw [h]; apply Array.toList_inj.1; rw [toList_madeCells_one]
theorem rep_cells (n : Nat) : bcells (rep n) = List.replicate n (Value.int .u8 0) := by simp [bcells, rep]
theorem make_bytes (n : Nat) (z : Int) (w : World) (hz : z = (n : Int)) (hn : n ≤ 100000) : (Instr.makeSlice 27 (.int .i64 z) (.int .i64 z)).run Tryd.prog w = .ok (.slice (some ⟨w.heap.size, 0, none⟩) n n) (w.alloc (.cells (bcells (rep n)).toArray 5)) := by
  obtain ⟨i0, hi, hz0, hz1, hz2⟩ := info_parts Tryd.info8
  subst hz
  have h := run_make (P := Tryd.prog) w 27 5 i0 (.int .u8 0) Tryd.underlying27 hi hz0 .i64 .i64 (n : Int) (n : Int) (by omega) (by omega) (by rw [hz2]; omega) (by omega)
  rw [hz1, Nat.mul_one, Int.toNat_natCast, made_one _ _ rfl, ← rep_cells] at h
  exact h
/-- A block of bytes, as a slice of so many. -/
theorem blk_bs {W : World} {b : Nat} {l : List UInt8} (h : Blk W b 5 (bcells l).toArray) (i n cap : Nat) (hn : i + n ≤ l.length) (hc : n ≤ cap) : Bs W (.slice (some ⟨b, i, none⟩) n cap) ((l.drop i).take n) := by
  have hl : ((l.drop i).take n).length = n := by simp; omega
  refine ⟨some ⟨b, i, none⟩, cap, by rw [hl], by omega, (fun e => by cases e), ?_⟩
  intro a e j u hj
  cases e
  have hj2 : j < n := by have := (List.getElem?_eq_some_iff.1 hj).1; rw [bcells_length, hl] at this; exact this
  rw [add_at, Blk.cell h (i + j) (by rw [List.getElem?_toArray]; exact bcells_at (by omega)), ← hj, bcells_at (by rw [hl]; exact hj2)]
  simp [List.getD_eq_getElem?_getD, hj2]
theorem blk_str {W : World} {b : Nat} {l : List UInt8} (h : Blk W b 5 (bcells l).toArray) (i n cap : Nat) (hn : i + n ≤ l.length) (hc : n ≤ cap) : (convert 27 9 (.slice (some ⟨b, i, none⟩) n cap)).run Tryd.prog W = .ok (.string ⟨((l.drop i).take n).toArray⟩) W := conv_bs _ _ _ (blk_bs h i n cap hn hc)
theorem blk_all {W : World} {b : Nat} {l : List UInt8} (h : Blk W b 5 (bcells l).toArray) (n : Nat) (hn : n = l.length) : (convert 27 9 (.slice (some ⟨b, 0, none⟩) n n)).run Tryd.prog W = .ok (.string ⟨l.toArray⟩) W := by
  have := blk_str h 0 n n (by omega) (Nat.le_refl _)
  rwa [List.drop_zero, List.take_of_length_le (by omega)] at this
theorem new_bytes (w : World) (l : List UInt8) (n : Nat) (hn : n = l.length) : (convert 27 9 (.slice (some ⟨w.heap.size, 0, none⟩) n n)).run Tryd.prog (w.alloc (.cells (bcells l).toArray 5)) = .ok (.string ⟨l.toArray⟩) (w.alloc (.cells (bcells l).toArray 5)) := blk_all (Blk.mk w _ _) n hn

/-- A text that reads as these bytes, new. -/
def TextGot (w : World) (l : List UInt8) (e : Ending) (w' : World) : Prop := ∃ t : ByteArray, e = .returned (.string t) ∧ t.data.toList = l ∧ w.grownBy w' none
theorem bytes4 (n : Nat) (w : World) (hn : n < 4294967296) : Calls Tryd.prog 11 #[.int .u64 (n : Nat), .int .i64 4] w (TextGot w (digits n 4)) :=
  (ref_bytes 4 n w (by decide) (by omega)).mono fun _ _ h => ⟨_, h.1, rfl, h.2⟩
theorem text_eq (t : ByteArray) (l : List UInt8) (h : t.data.toList = l) : t = ⟨l.toArray⟩ := by
  apply ByteArray.ext; rw [← h]

set_option maxHeartbeats 1000000 in
theorem refSeal_kind (k : Int) (s : ByteArray) (w : World) (hk : k < 1 ∨ 255 < k) :
    Calls Tryd.prog 8 #[.int .i64 k, .string s] w (Sealed w k s.data.toList) := by
  have he : sealE k s.data.toList = 6 := if_pos hk
  have hs : sealS k s.data.toList = [] := by unfold sealS; rw [he, if_neg (by decide)]
  have HE := Lib.hid he
  have HS := Lib.hid hs
  clear he hs
  rcases hk with hk | hk
  · go_enter Tryd.func8, Tryd.ntmps8
    go_wp2
    go_ret2
    exact ⟨by rw [HE.out, HS.out]; rfl, gb_refl _ _⟩
  · have hk0 : ¬ k < 1 := by omega
    go_enter Tryd.func8, Tryd.ntmps8
    go_wp2
    go_ret2
    exact ⟨by rw [HE.out, HS.out]; rfl, gb_refl _ _⟩
set_option maxHeartbeats 1000000 in
theorem refSeal_long (k : Int) (s : ByteArray) (w : World) (h1 : 1 ≤ k) (h2 : k ≤ 255) (hl : 240 < s.size) :
    Calls Tryd.prog 8 #[.int .i64 k, .string s] w (Sealed w k s.data.toList) := by
  have he : sealE k s.data.toList = 4 := by unfold sealE; rw [if_neg (by omega), if_pos (by exact hl)]
  have hs : sealS k s.data.toList = [] := by unfold sealS; rw [he, if_neg (by decide)]
  have HE := Lib.hid he
  have HS := Lib.hid hs
  clear he hs
  have hk0 : ¬ k < 1 := by omega
  have hk1 : ¬ 255 < k := by omega
  have hl1 : 240 < (s.size : Int) := by omega
  go_enter Tryd.func8, Tryd.ntmps8
  go_wp2
  go_ret2
  exact ⟨by rw [HE.out, HS.out]; rfl, gb_refl _ _⟩
set_option maxRecDepth 100000 in
set_option maxHeartbeats 2000000 in
theorem refSeal_good (k : Nat) (s : ByteArray) (w : World) (h1 : 1 ≤ k) (h2 : k ≤ 255) (hl : s.size ≤ 240) :
    Calls Tryd.prog 8 #[.int .i64 (k : Nat), .string s] w (Sealed w k s.data.toList) := by
  have he : sealE k s.data.toList = 0 := by unfold sealE; rw [if_neg (by omega), if_neg (by show ¬ 240 < s.size; omega)]
  have hs : sealS k s.data.toList = sealF k s.data.toList := by unfold sealS; rw [he, if_pos rfl, Int.toNat_natCast]
  have HE := Lib.hid he
  have HS := Lib.hid hs
  clear he hs
  have hk0 : ¬ (k : Int) < 1 := by omega
  have hk1 : ¬ 255 < (k : Int) := by omega
  have hl1 : ¬ 240 < (s.size : Int) := by omega
  have hkw : IntKind.u8.wrap (k : Int) = (k : Int) := by rw [IntKind.wrap_u8']; omega
  have hlw : IntKind.u8.wrap (s.size : Int) = (s.size : Int) := by rw [IntKind.wrap_u8']; omega
  obtain ⟨t, ht⟩ : ∃ t : ByteArray, t = ⟨[UInt8.ofNat k, UInt8.ofNat s.size].toArray⟩ := ⟨_, rfl⟩
  have hcv := new_bytes w [UInt8.ofNat k, UInt8.ofNat s.size] 2 rfl
  rw [← ht, show bcells [UInt8.ofNat k, UInt8.ofNat s.size] = [.int .u8 (k : Nat), .int .u8 (s.size : Nat)] by simp only [bcells, List.map_cons, List.map_nil, u8_of k (by omega), u8_of s.size (by omega)]] at hcv
  obtain ⟨m, hm⟩ : ∃ m, m = 250 - s.size := ⟨_, rfl⟩
  obtain ⟨z, hz⟩ : ∃ z : ByteArray, z = ⟨(rep m).toArray⟩ := ⟨_, rfl⟩
  have hzs : z.size = m := by rw [hz]; show (rep m).toArray.size = m; rw [List.size_toArray, rep_length]
  have mk := fun W => make_bytes m (252 - (2 + (s.size : Int))) W (by omega) (by omega)
  have hcz := new_bytes (w.alloc (.cells #[.int .u8 (k : Nat), .int .u8 (s.size : Nat)] 5)) (rep m) m (rep_length m).symm
  rw [World.size_alloc] at hcz
  rw [← hz] at hcz
  obtain ⟨u, hu⟩ : ∃ u : ByteArray, u = t ++ s ++ z := ⟨_, rfl⟩
  have hul : u.data.toList = headF k s.data.toList := by
    rw [hu, ht, hz, hm]
    simp [headF]
  have hus : u.size = 252 := by
    show u.data.size = 252
    rw [← Array.length_toList, hul, headF_length _ _ (by show s.size ≤ _; omega)]
  have hts : t.size = 2 := by rw [ht]; rfl
  have HU := Lib.hid hu
  have HUL := Lib.hid hul
  have HUS := Lib.hid hus
  go_enter Tryd.func8, Tryd.ntmps8
  have hmb : m ≤ 250 := by omega
  clear hu hul hus ht hz hm
  go_wp2_with (first
    | (go_at_call 12; rw [← HU.out]; (with_reducible refine (refOf_any _ _ (by have := HUS.out; omega)).mono ?_); rintro e w2 ⟨rfl, rfl⟩; have hml := moreN_lt 1 u.data.toList)
    | (go_at_call 11; (with_reducible refine (bytes4 _ _ hml).mono ?_); rintro e w3 ⟨v, rfl, hv, g3⟩; have hus := HUS.out; have hvs : v.size = 4 := (by show v.data.size = 4; rw [← Array.length_toList, hv, digits_length]))
    | fail)
  go_ret2
  refine ⟨?_, ?_⟩
  · rw [HE.out, HS.out]
    have e : u ++ v = ⟨(sealF k s.data.toList).toArray⟩ := by
      refine text_eq _ _ ?_
      unfold sealF sumF
      simp [hv, HUL.out]
    exact congrArg (fun x => Ending.returned (.tuple #[.string x, .int .i64 0])) e
  · exact gb_trans (gb_trans (gb_alloc _ _ _) (gb_alloc _ _ _)) g3
theorem refSeal_any (k : Int) (s : ByteArray) (w : World) :
    Calls Tryd.prog 8 #[.int .i64 k, .string s] w (Sealed w k s.data.toList) := by
  by_cases h : k < 1 ∨ 255 < k
  · exact refSeal_kind k s w h
  · by_cases h2 : 240 < s.size
    · exact refSeal_long k s w (by omega) (by omega) h2
    · obtain ⟨n, rfl⟩ : ∃ n : Nat, k = (n : Int) := ⟨k.toNat, by omega⟩
      exact refSeal_good n s w (by omega) (by omega) (by omega)
end Go.Proofs.YthemolnhncjlmaaDoor
