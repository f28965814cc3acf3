/-
  CellKnown, walked: true, over this seat's translation; condition: the variable errors.errorType holds its type's handle.
-/
import Derived.Test.YthemolnhncjlmaaDoorCw
namespace Go.Proofs.YthemolnhncjlmaaDoor
open Go.RowKit

/-- The bytes ahead of the sum, of the four sectors that do not open. -/
def badF : Nat → List UInt8
  | 0 => rep 252
  | 1 => [1, 241] ++ rep 250
  | 2 => [1, 2, 0, 0, 7] ++ rep 247
  | _ => [1, 240] ++ rep 240 ++ [0, 0, 0, 0, 0, 0, 0, 0, 0, 5]
def badC : Nat → Nat
  | 0 => 6
  | 1 => 4
  | 2 => 5
  | _ => 5
def badA : Nat → Nat
  | 0 => 0
  | 1 => 1
  | 2 => 4
  | _ => 251
theorem bad_opens (i : Nat) (hi : i < 4) : openF (badF i ++ sumF (badF i)) = (badC i, badA i) := by
  match i, hi with
  | 0, _ => decide +kernel
  | 1, _ => decide +kernel
  | 2, _ => decide +kernel
  | 3, _ => decide +kernel
theorem bad_length (i : Nat) (hi : i < 4) : (badF i).length = 252 := by
  match i, hi with
  | 0, _ => decide +kernel
  | 1, _ => decide +kernel
  | 2, _ => decide +kernel
  | 3, _ => decide +kernel
theorem bad_code (i : Nat) (hi : i < 4) : badC i ≠ 0 := by
  match i, hi with
  | 0, _ => decide
  | 1, _ => decide
  | 2, _ => decide
  | 3, _ => decide
theorem ex_rep (Z : ByteArray) (n a b : Nat) (h : Z.data.toList = rep n) (hb : b ≤ n) : (Z.extract a b).data.toList = rep (b - a) := by rw [extract_list, h, rep_take b n hb, rep_drop]
theorem ap_list (a b : ByteArray) : (a ++ b).data.toList = a.data.toList ++ b.data.toList := by simp
/-- What is sealed, and opened again. -/
theorem pair_any (k : Nat) (t : ByteArray) (z : Int) (hz : z = (k : Nat)) (h1 : 1 ≤ k) (h2 : k < 256) (ht : t.size ≤ 240) :
    ∃ S : ByteArray, Hid ((∀ W, Calls Tryd.prog 7 #[.int .i64 z, .string t] W (fun e w' => e = .returned (.tuple #[.string S, .int .i64 0]) ∧ W.grownBy w' none)) ∧
      ∀ W, Calls Tryd.prog 13 #[.string S] W (fun e w' => e = .returned (.tuple #[.int .i64 z, .string t, .nilIface]) ∧ W.grownBy w' none)) := by
  subst hz
  refine ⟨⟨(sealF k t.data.toList).toArray⟩, Lib.hid ⟨fun W => (seal_any (k : Nat) t W).mono fun e w' h => ?_, fun W => (open_any _ W).mono fun e w' h => ?_⟩⟩
  · have he : sealE (k : Nat) t.data.toList = 0 := by unfold sealE; rw [if_neg (by omega), if_neg (by show ¬ 240 < t.size; omega)]
    have hs : sealS (k : Nat) t.data.toList = sealF k t.data.toList := by unfold sealS; rw [he, if_pos rfl, Int.toNat_natCast]
    unfold Sealed at h
    rw [he, hs] at h
    exact h
  · rw [show (⟨(sealF k t.data.toList).toArray⟩ : ByteArray).data.toList = sealF k t.data.toList from rfl] at h
    obtain ⟨q1, q2⟩ := h.1 (by rw [open_seal k _ ht h1 h2])
    rw [kind_seal k _ h2, body_seal k _ ht] at q1
    exact ⟨q1, q2⟩

set_option maxRecDepth 100000 in
set_option linter.unusedSimpArgs false in
set_option maxHeartbeats 4000000 in
theorem known_walk (w : World) (hd : Hd w) : Calls Tryd.prog 6 #[] w (TrueGot w) := by
  have mk0 := make_bytes 252 252 w rfl (by decide)
  have hcz := new_bytes w (rep 252) 252 (rep_length 252).symm
  have g0 := gb_alloc w (.cells (bcells (rep 252)).toArray 5) none
  generalize w.alloc (.cells (bcells (rep 252)).toArray 5) = w1 at mk0 hcz g0
  obtain ⟨Z, hZ⟩ : ∃ Z : ByteArray, Z = ⟨(rep 252).toArray⟩ := ⟨_, rfl⟩
  rw [← hZ] at hcz
  have hZs : Z.size = 252 := by rw [hZ]; show (rep 252).toArray.size = 252; rw [List.size_toArray, rep_length]
  have hZl : Z.data.toList = rep 252 := by rw [hZ]
  have HD := Lib.hid (hd.keep0 g0)
  have HG := Lib.hid g0
  have ex := fun a b (h : b ≤ 252) => ex_rep Z 252 a b hZl h
  have HE0 := Lib.hid (show Z.data.toList = badF 0 from hZl)
  obtain ⟨B1, e1⟩ : ∃ B, (⟨#[1, 241]⟩ : ByteArray) ++ Z.extract 2 252 = B := ⟨_, rfl⟩
  obtain ⟨B2, e2⟩ : ∃ B, (⟨#[1, 2, 0, 0, 7]⟩ : ByteArray) ++ Z.extract 5 252 = B := ⟨_, rfl⟩
  obtain ⟨B3, e3⟩ : ∃ B, (⟨#[1, 240]⟩ : ByteArray) ++ Z.extract 0 240 ++ (⟨#[0, 0, 0, 0, 0, 0, 0, 0, 0, 5]⟩ : ByteArray) = B := ⟨_, rfl⟩
  have HE1 := Lib.hid (show B1.data.toList = badF 1 by rw [← e1, ap_list, ex 2 252 (by decide)]; rfl)
  have HE2 := Lib.hid (show B2.data.toList = badF 2 by rw [← e2, ap_list, ex 5 252 (by decide)]; rfl)
  have HE3 := Lib.hid (show B3.data.toList = badF 3 by rw [← e3, ap_list, ap_list, ex 0 240 (by decide)]; rfl)
  obtain ⟨Z4, e4⟩ : ∃ B, Z.extract 0 240 = B := ⟨_, rfl⟩
  have HE4 := Lib.hid (show Z4.data.toList = rep 240 by rw [← e4]; exact ex 0 240 (by decide))
  have hZ4 : Z4.size = 240 := by rw [← e4, ByteArray.size_extract, hZs]; rfl
  rw [e4] at e3
  clear ex hZl
  clear hd hZ g0
  go_enter Tryd.func6, Tryd.ntmps6
  go_wp2_with fail
  refine wp_region_noPanic ?_
  refine wp_region_held_drew (S := fun w' => (w1).grownBy w' none) (by kernel_rfl) (gb_drew _ _) (fun hHeld => ?_)
  refine wpAnyH_take (i := 0) (v := ?_) (List.getElem?_toArray.trans rfl) (by kernel_rfl) (by kernel_rfl) (by kernel_rfl) (fun _ _ _ h => h) (Or.inl ⟨by rfl, ?_⟩) hHeld ?_
  rotate_left
  · intro w' hSw; go_simp; try with_reducible rfl
  try simp only [Act.put, List.setIfInBounds_toArray, List.set_cons_zero, List.set_cons_succ]
  refine wpAnyH_take (i := 1) (v := ?_) (List.getElem?_toArray.trans rfl) (by kernel_rfl) (by kernel_rfl) (by kernel_rfl) (fun _ _ _ h => h) (Or.inl ⟨by rfl, ?_⟩) hHeld ?_
  rotate_left
  · intro w' hSw; go_simp; try with_reducible rfl
  try simp only [Act.put, List.setIfInBounds_toArray, List.set_cons_zero, List.set_cons_succ]
  refine wpAnyH_take (i := 2) (v := ?_) (List.getElem?_toArray.trans rfl) (by kernel_rfl) (by kernel_rfl) (by kernel_rfl) (fun _ _ _ h => h) (Or.inl ⟨by rfl, ?_⟩) hHeld ?_
  rotate_left
  · intro w' hSw; go_simp; try with_reducible rfl
  try simp only [Act.put, List.setIfInBounds_toArray, List.set_cons_zero, List.set_cons_succ]
  refine wpAnyH_take (i := 3) (v := ?_) (List.getElem?_toArray.trans rfl) (by kernel_rfl) (by kernel_rfl) (by kernel_rfl) (fun _ _ _ h => h) (Or.inl ⟨by rfl, ?_⟩) hHeld ?_
  rotate_left
  · intro w' hSw; go_simp; try with_reducible rfl
  try simp only [Act.put, List.setIfInBounds_toArray, List.set_cons_zero, List.set_cons_succ]
  refine wpAnyH_take (i := 4) (v := ?_) (List.getElem?_toArray.trans rfl) (by kernel_rfl) (by kernel_rfl) (by kernel_rfl) (fun _ _ _ h => h) (Or.inl ⟨by rfl, ?_⟩) hHeld ?_
  rotate_left
  · intro w' hSw; go_simp; try with_reducible rfl
  try simp only [Act.put, List.setIfInBounds_toArray, List.set_cons_zero, List.set_cons_succ]
  refine wpAnyH_take (i := 5) (v := ?_) (List.getElem?_toArray.trans rfl) (by kernel_rfl) (by kernel_rfl) (by kernel_rfl) (fun _ _ _ h => h) (Or.inl ⟨by rfl, ?_⟩) hHeld ?_
  rotate_left
  · intro w' hSw; go_simp; try with_reducible rfl
  try simp only [Act.put, List.setIfInBounds_toArray, List.set_cons_zero, List.set_cons_succ]
  refine wpAnyH_take (i := 6) (v := ?_) (List.getElem?_toArray.trans rfl) (by kernel_rfl) (by kernel_rfl) (by kernel_rfl) (fun _ _ _ h => h) (Or.inl ⟨by rfl, ?_⟩) hHeld ?_
  rotate_left
  · intro w' hSw; go_simp; try with_reducible rfl
  try simp only [Act.put, List.setIfInBounds_toArray, List.set_cons_zero, List.set_cons_succ]
  refine wpAnyH_take (i := 7) (v := ?_) (List.getElem?_toArray.trans rfl) (by kernel_rfl) (by kernel_rfl) (by kernel_rfl) (fun _ _ _ h => h) (Or.inl ⟨by rfl, ?_⟩) hHeld ?_
  rotate_left
  · intro w' hSw; go_simp; try with_reducible rfl
  try simp only [Act.put, List.setIfInBounds_toArray, List.set_cons_zero, List.set_cons_succ]
  refine wpAnyH_take (i := 8) (v := ?_) (List.getElem?_toArray.trans rfl) (by kernel_rfl) (by kernel_rfl) (by kernel_rfl) (fun _ _ _ h => h) (Or.inl ⟨by rfl, ?_⟩) hHeld ?_
  rotate_left
  · intro w' hSw; go_simp; try with_reducible rfl
  try simp only [Act.put, List.setIfInBounds_toArray, List.set_cons_zero, List.set_cons_succ]
  refine wpAnyH_take (i := 9) (v := ?_) (List.getElem?_toArray.trans rfl) (by kernel_rfl) (by kernel_rfl) (by kernel_rfl) (fun _ _ _ h => h) (Or.inl ⟨by rfl, ?_⟩) hHeld ?_
  rotate_left
  · intro w' hSw; go_simp; try with_reducible rfl
  try simp only [Act.put, List.setIfInBounds_toArray, List.set_cons_zero, List.set_cons_succ]
  refine wpAnyH_take (i := 10) (v := ?_) (List.getElem?_toArray.trans rfl) (by kernel_rfl) (by kernel_rfl) (by kernel_rfl) (fun _ _ _ h => h) (Or.inl ⟨by rfl, ?_⟩) hHeld ?_
  rotate_left
  · intro w' hSw; go_simp; try with_reducible rfl
  try simp only [Act.put, List.setIfInBounds_toArray, List.set_cons_zero, List.set_cons_succ]
  refine wpAnyH_take (i := 11) (v := ?_) (List.getElem?_toArray.trans rfl) (by kernel_rfl) (by kernel_rfl) (by kernel_rfl) (fun _ _ _ h => h) (Or.inl ⟨by rfl, ?_⟩) hHeld ?_
  rotate_left
  · intro w' hSw; go_simp; try with_reducible rfl
  try simp only [Act.put, List.setIfInBounds_toArray, List.set_cons_zero, List.set_cons_succ]
  refine wpAnyH_ready (rs := [12]) (by kernel_rfl) (by simp) ?_
  refine AllReadyH.cons (List.getElem?_toArray.trans rfl) (fun K hK => ?_) AllReadyH.nil
  go_simp
  refine hK.out _ _ (gb_trans hHeld (gb_alloc _ _ none)) (fun hHeld => ?_)
  clear hK K
  try simp only [Act.put, List.setIfInBounds_toArray, List.set_cons_zero, List.set_cons_succ]
  refine wpAnyH_ready (rs := [13]) (by kernel_rfl) (by simp) ?_
  refine AllReadyH.cons (List.getElem?_toArray.trans rfl) (fun K hK => ?_) AllReadyH.nil
  go_simp
  refine hK.out _ _ (gb_trans (gb_alloc w1 _ none) (gb_drew _ none)) (fun hHeld => ?_)
  clear hK K
  try simp only [Act.put, List.setIfInBounds_toArray, List.set_cons_zero, List.set_cons_succ]
  refine wpAnyH_done (by kernel_rfl) ?_ _
  refine NoPanic.normal ?_
  have KA := (Blk.mk w1 42 #[.string Z, .string B1, .string B2, .string B3]).keep0 (gb_drew _ none)
  have GA := gb_trans (gb_alloc w1 (.cells #[.string Z, .string B1, .string B2, .string B3] 42) none) (gb_drew _ none)
  generalize (w1.alloc (.cells #[.string Z, .string B1, .string B2, .string B3] 42)).drew = w2 at KA GA ⊢
  clear hHeld
  go_wp2
  have KC := (Blk.mk w2 43 #[.int .i64 6, .int .i64 4, .int .i64 5, .int .i64 5]).keep0 (gb_alloc _ (.cells #[.int .i64 0, .int .i64 1, .int .i64 4, .int .i64 251] 44) none)
  have KD := Blk.mk (w2.alloc (.cells #[.int .i64 6, .int .i64 4, .int .i64 5, .int .i64 5] 43)) 44 #[.int .i64 0, .int .i64 1, .int .i64 4, .int .i64 251]
  have GC := gb_trans (gb_alloc w2 (.cells #[.int .i64 6, .int .i64 4, .int .i64 5, .int .i64 5] 43) none) (gb_alloc _ (.cells #[.int .i64 0, .int .i64 1, .int .i64 4, .int .i64 251] 44) none)
  rw [World.size_alloc] at KD
  have KA4 := KA.keep0 GC
  generalize (w2.alloc (.cells #[.int .i64 6, .int .i64 4, .int .i64 5, .int .i64 5] 43)).alloc (.cells #[.int .i64 0, .int .i64 1, .int .i64 4, .int .i64 251] 44) = w4 at KC KD GC KA4 ⊢
  have G4 := Lib.hid (gb_trans HG.out (gb_trans GA GC))
  have HD4 := Lib.hid (show ∀ W, w4.grownBy W none → Hd W from fun W g => HD.out.keep0 (gb_trans (gb_trans GA GC) g))
  have HB := Lib.hid (show ∀ i, i < 4 → ∃ x : ByteArray, x.data.toList = badF i ∧ ∀ W, w4.grownBy W none → W.cell? ⟨w1.heap.size, i, none⟩ = some (.string x) from fun i hi => by
    match i, hi with
    | 0, _ => exact ⟨Z, HE0.out, fun W g => (KA4.keep0 g).cell 0 rfl⟩
    | 1, _ => exact ⟨B1, HE1.out, fun W g => (KA4.keep0 g).cell 1 rfl⟩
    | 2, _ => exact ⟨B2, HE2.out, fun W g => (KA4.keep0 g).cell 2 rfl⟩
    | 3, _ => exact ⟨B3, HE3.out, fun W g => (KA4.keep0 g).cell 3 rfl⟩)
  have HCs := Lib.hid (show ∀ i, i < 4 → ∀ W, w4.grownBy W none → W.cell? ⟨w2.heap.size, i, none⟩ = some (.int .i64 (badC i : Nat)) from fun i hi W g => by
    match i, hi with
    | 0, _ => exact (KC.keep0 g).cell 0 rfl
    | 1, _ => exact (KC.keep0 g).cell 1 rfl
    | 2, _ => exact (KC.keep0 g).cell 2 rfl
    | 3, _ => exact (KC.keep0 g).cell 3 rfl)
  have HAs := Lib.hid (show ∀ i, i < 4 → ∀ W, w4.grownBy W none → W.cell? ⟨w2.heap.size + 1, i, none⟩ = some (.int .i64 (badA i : Nat)) from fun i hi W g => by
    match i, hi with
    | 0, _ => exact (KD.keep0 g).cell 0 rfl
    | 1, _ => exact (KD.keep0 g).cell 1 rfl
    | 2, _ => exact (KD.keep0 g).cell 2 rfl
    | 3, _ => exact (KD.keep0 g).cell 3 rfl)
  obtain ⟨S1, HP1⟩ := pair_any 255 Z4 255 rfl (by decide) (by decide) (by omega)
  obtain ⟨S2, HP2⟩ := pair_any 1 ⟨#[]⟩ 1 rfl (by decide) (by decide) (by decide)
  have HF0 := Lib.hid (fun W (hw : Hd W) => fails_any ⟨#[]⟩ 2 0 2 0 W hw rfl rfl (openF_short _ (by decide)) (by decide))
  clear KA KC KD KA4 GA GC mk0 hcz e1 e2 e3 HE0 HE1 HE2 HE3
  go_loopw [5] (fun v wr => ∃ k : Nat, k ≤ 4 ∧ v = .int .i64 k ∧ w4.grownBy wr none) (fun v _ => 4 - (intOf v).toNat)
  case atStart => exact ⟨0, by omega, rfl, gb_refl _ _⟩
  case round =>
    obtain ⟨k, hk, rfl, hg⟩ := hrel
    by_cases hlt : k < 4
    · obtain ⟨x, hxl, hX⟩ := HB.out k hlt
      have HX := Lib.hid hX
      have HC := Lib.hid (HCs.out k hlt)
      have HA := Lib.hid (HAs.out k hlt)
      have hcn := bad_code k hlt
      have hbo := bad_opens k hlt
      have hbl := bad_length k hlt
      generalize badC k = cd at HC hcn hbo
      generalize badA k = at_ at HA hbo
      generalize badF k = h at hxl hbo hbl
      have hxs : x.size = 252 := by show x.data.size = 252; rw [← Array.length_toList, hxl, hbl]
      obtain ⟨N, hN⟩ : ∃ N, N = moreN 1 h := ⟨_, rfl⟩
      obtain ⟨c3, hc3⟩ : ∃ c, c = UInt8.ofNat (N / 16777216 % 256) := ⟨_, rfl⟩
      obtain ⟨c2, hc2⟩ : ∃ c, c = UInt8.ofNat (N / 65536 % 256) := ⟨_, rfl⟩
      obtain ⟨c1, hc1⟩ : ∃ c, c = UInt8.ofNat (N / 256 % 256) := ⟨_, rfl⟩
      obtain ⟨c0, hc0⟩ : ∃ c, c = UInt8.ofNat (N % 256) := ⟨_, rfl⟩
      have hdig : sumF h = [c3, c2, c1, c0] := by unfold sumF; rw [← hN, digits_four, hc3, hc2, hc1, hc0]
      have s3 : IntKind.u8.wrap ((N : Int) / 16777216) = ((c3.toNat : Nat) : Int) := by rw [hc3]; exact shr_byte _ _ (by omega)
      have s2 : IntKind.u8.wrap ((N : Int) / 65536) = ((c2.toNat : Nat) : Int) := by rw [hc2]; exact shr_byte _ _ (by omega)
      have s1 : IntKind.u8.wrap ((N : Int) / 256) = ((c1.toNat : Nat) : Int) := by rw [hc1]; exact shr_byte _ _ (by omega)
      have s0 : IntKind.u8.wrap (N : Int) = ((c0.toNat : Nat) : Int) := by rw [hc0]; exact shr_byte _ _ rfl
      obtain ⟨y, hy⟩ : ∃ y : ByteArray, x ++ (⟨#[c3, c2, c1, c0]⟩ : ByteArray) = y := ⟨_, rfl⟩
      have hyl : y.data.toList = h ++ sumF h := by rw [← hy, ap_list, hxl, hdig]
      have hys : y.size = 256 := by show y.data.size = 256; rw [← Array.length_toList, hyl, List.length_append, hbl, sumF_length]
      have HF1 := Lib.hid (fun W (hw : Hd W) => fails_any y (cd : Nat) (at_ : Nat) cd at_ W hw rfl rfl (by rw [hyl]; exact hbo) hcn)
      obtain ⟨y2, hy2⟩ : ∃ y2 : ByteArray, y ++ (⟨#[120]⟩ : ByteArray) = y2 := ⟨_, rfl⟩
      have HF2 := Lib.hid (fun W (hw : Hd W) => fails_any y2 2 0 2 0 W hw rfl rfl (openF_short _ (by rw [← hy2, ap_list, List.length_append, show y.data.toList.length = 256 from hys]; decide)) (by decide))
      have HF3 := Lib.hid (fun W (hw : Hd W) => fails_any (y.extract 0 255) 2 0 2 0 W hw rfl rfl (openF_short _ (by rw [extract_list, List.drop_zero, List.length_take, show y.data.toList.length = 256 from hys]; decide)) (by decide))
      have HOf := Lib.hid (show ∀ W, Calls Tryd.prog 15 #[.string x] W (fun e w' => e = .returned (.int .u32 (N : Nat)) ∧ W.grownBy w' none) from fun W => (of_any x W (by omega)).mono fun e w' q => ⟨by rw [q.1, hN, hxl], gb_of_below q.2⟩)
      have hx0 := hX _ hg
      have hki : (k : Int) < 4 := by omega
      clear hX hN hc3 hc2 hc1 hc0 hdig hyl hbo hbl hxl hcn
      go_wp2_with (first
        | (go_at_call 15; (with_reducible refine (HOf.out _).mono ?_); rintro e w5 ⟨rfl, g5⟩)
        | fail)
      have G5 := Lib.hid (gb_trans hg g5)
      clear g5 hx0
      refine wp_region_noPanic ?_
      refine wp_region_held_drew (S := fun w' => (w5).grownBy w' none) (by kernel_rfl) (gb_drew _ _) (fun hHeld => ?_)
      refine wpAnyH_take (i := 0) (v := ?_) (List.getElem?_toArray.trans rfl) (by kernel_rfl) (by kernel_rfl) (by kernel_rfl) (fun _ _ _ h => h) (Or.inl ⟨by rfl, ?_⟩) hHeld ?_
      rotate_left
      · intro w' hSw; go_simp; try with_reducible rfl
      try simp only [Act.put, List.setIfInBounds_toArray, List.set_cons_zero, List.set_cons_succ]
      refine wpAnyH_take (i := 1) (v := ?_) (List.getElem?_toArray.trans rfl) (by kernel_rfl) (by kernel_rfl) (by kernel_rfl) (fun _ _ _ h => h) (Or.inl ⟨by rfl, ?_⟩) hHeld ?_
      rotate_left
      · intro w' hSw; go_simp; try with_reducible rfl
      try simp only [Act.put, List.setIfInBounds_toArray, List.set_cons_zero, List.set_cons_succ]
      refine wpAnyH_take (i := 2) (v := ?_) (List.getElem?_toArray.trans rfl) (by kernel_rfl) (by kernel_rfl) (by kernel_rfl) (fun _ _ _ h => h) (Or.inl ⟨by rfl, ?_⟩) hHeld ?_
      rotate_left
      · intro w' hSw; have hxx := HX.out w' (gb_trans G5.out hSw); go_simp; try with_reducible rfl
      try simp only [Act.put, List.setIfInBounds_toArray, List.set_cons_zero, List.set_cons_succ]
      refine wpAnyH_take (i := 3) (v := ?_) (List.getElem?_toArray.trans rfl) (by kernel_rfl) (by kernel_rfl) (by kernel_rfl) (fun _ _ _ h => h) (Or.inl ⟨by rfl, ?_⟩) hHeld ?_
      rotate_left
      · intro w' hSw; go_simp; try with_reducible rfl
      try simp only [Act.put, List.setIfInBounds_toArray, List.set_cons_zero, List.set_cons_succ]
      refine wpAnyH_take (i := 4) (v := ?_) (List.getElem?_toArray.trans rfl) (by kernel_rfl) (by kernel_rfl) (by kernel_rfl) (fun _ _ _ h => h) (Or.inl ⟨by rfl, ?_⟩) hHeld ?_
      rotate_left
      · intro w' hSw; go_simp; try with_reducible rfl
      try simp only [Act.put, List.setIfInBounds_toArray, List.set_cons_zero, List.set_cons_succ]
      refine wpAnyH_take (i := 5) (v := ?_) (List.getElem?_toArray.trans rfl) (by kernel_rfl) (by kernel_rfl) (by kernel_rfl) (fun _ _ _ h => h) (Or.inl ⟨by rfl, ?_⟩) hHeld ?_
      rotate_left
      · intro w' hSw; go_simp; try with_reducible rfl
      try simp only [Act.put, List.setIfInBounds_toArray, List.set_cons_zero, List.set_cons_succ]
      refine wpAnyH_take (i := 6) (v := ?_) (List.getElem?_toArray.trans rfl) (by kernel_rfl) (by kernel_rfl) (by kernel_rfl) (fun _ _ _ h => h) (Or.inl ⟨by rfl, ?_⟩) hHeld ?_
      rotate_left
      · intro w' hSw; go_simp; try with_reducible rfl
      try simp only [Act.put, List.setIfInBounds_toArray, List.set_cons_zero, List.set_cons_succ]
      refine wpAnyH_take (i := 7) (v := ?_) (List.getElem?_toArray.trans rfl) (by kernel_rfl) (by kernel_rfl) (by kernel_rfl) (fun _ _ _ h => h) (Or.inl ⟨by rfl, ?_⟩) hHeld ?_
      rotate_left
      · intro w' hSw; go_simp; try with_reducible rfl
      try simp only [Act.put, List.setIfInBounds_toArray, List.set_cons_zero, List.set_cons_succ]
      refine wpAnyH_take (i := 8) (v := ?_) (List.getElem?_toArray.trans rfl) (by kernel_rfl) (by kernel_rfl) (by kernel_rfl) (fun _ _ _ h => h) (Or.inl ⟨by rfl, ?_⟩) hHeld ?_
      rotate_left
      · intro w' hSw; go_simp; try with_reducible rfl
      try simp only [Act.put, List.setIfInBounds_toArray, List.set_cons_zero, List.set_cons_succ]
      refine wpAnyH_take (i := 9) (v := ?_) (List.getElem?_toArray.trans rfl) (by kernel_rfl) (by kernel_rfl) (by kernel_rfl) (fun _ _ _ h => h) (Or.inl ⟨by rfl, ?_⟩) hHeld ?_
      rotate_left
      · intro w' hSw; go_simp; try with_reducible rfl
      try simp only [Act.put, List.setIfInBounds_toArray, List.set_cons_zero, List.set_cons_succ]
      refine wpAnyH_take (i := 10) (v := ?_) (List.getElem?_toArray.trans rfl) (by kernel_rfl) (by kernel_rfl) (by kernel_rfl) (fun _ _ _ h => h) (Or.inl ⟨by rfl, ?_⟩) hHeld ?_
      rotate_left
      · intro w' hSw; go_simp; try with_reducible rfl
      try simp only [Act.put, List.setIfInBounds_toArray, List.set_cons_zero, List.set_cons_succ]
      refine wpAnyH_take (i := 11) (v := ?_) (List.getElem?_toArray.trans rfl) (by kernel_rfl) (by kernel_rfl) (by kernel_rfl) (fun _ _ _ h => h) (Or.inl ⟨by rfl, ?_⟩) hHeld ?_
      rotate_left
      · intro w' hSw; go_simp; try with_reducible rfl
      try simp only [Act.put, List.setIfInBounds_toArray, List.set_cons_zero, List.set_cons_succ]
      refine wpAnyH_take (i := 12) (v := ?_) (List.getElem?_toArray.trans rfl) (by kernel_rfl) (by kernel_rfl) (by kernel_rfl) (fun _ _ _ h => h) (Or.inl ⟨by rfl, ?_⟩) hHeld ?_
      rotate_left
      · intro w' hSw; go_simp; try with_reducible rfl
      try simp only [Act.put, List.setIfInBounds_toArray, List.set_cons_zero, List.set_cons_succ]
      refine wpAnyH_take (i := 13) (v := ?_) (List.getElem?_toArray.trans rfl) (by kernel_rfl) (by kernel_rfl) (by kernel_rfl) (fun _ _ _ h => h) (Or.inl ⟨by rfl, ?_⟩) hHeld ?_
      rotate_left
      · intro w' hSw; go_simp; try with_reducible rfl
      try simp only [Act.put, List.setIfInBounds_toArray, List.set_cons_zero, List.set_cons_succ]
      refine wpAnyH_ready (rs := [14]) (by kernel_rfl) (by simp) ?_
      refine AllReadyH.cons (List.getElem?_toArray.trans rfl) (fun K hK => ?_) AllReadyH.nil
      go_simp
      refine hK.out _ _ (gb_trans hHeld (gb_alloc _ _ none)) (fun hHeld => ?_)
      clear hK K
      try simp only [Act.put, List.setIfInBounds_toArray, List.set_cons_zero, List.set_cons_succ]
      refine wpAnyH_ready (rs := [15]) (by kernel_rfl) (by simp) ?_
      refine AllReadyH.cons (List.getElem?_toArray.trans rfl) (fun K hK => ?_) AllReadyH.nil
      have hcv := new_bytes_drew w5 [c3, c2, c1, c0] 4 rfl
      simp only [bcells, List.map_cons, List.map_nil] at hcv
      go_simp
      refine hK.out _ _ (hHeld) (fun hHeld => ?_)
      clear hK K
      try simp only [Act.put, List.setIfInBounds_toArray, List.set_cons_zero, List.set_cons_succ]
      refine wpAnyH_take (i := 16) (v := ?_) (List.getElem?_toArray.trans rfl) (by kernel_rfl) (by kernel_rfl) (by kernel_rfl) (fun _ _ _ h => h) (Or.inl ⟨by rfl, ?_⟩) hHeld ?_
      rotate_left
      · intro w' hSw; go_simp; try with_reducible rfl
      try simp only [Act.put, List.setIfInBounds_toArray, List.set_cons_zero, List.set_cons_succ]
      refine wpAnyH_take (i := 17) (v := ?_) (List.getElem?_toArray.trans rfl) (by kernel_rfl) (by kernel_rfl) (by kernel_rfl) (fun _ _ _ h => h) (Or.inl ⟨by rfl, ?_⟩) hHeld ?_
      rotate_left
      · intro w' hSw; go_simp; try with_reducible rfl
      try simp only [Act.put, List.setIfInBounds_toArray, List.set_cons_zero, List.set_cons_succ]
      refine wpAnyH_done (by kernel_rfl) ?_ _
      refine NoPanic.normal ?_
      have G9 := Lib.hid (gb_trans G5.out hHeld)
      generalize (w5.alloc (.cells #[.int .u8 (c3.toNat : Nat), .int .u8 (c2.toNat : Nat), .int .u8 (c1.toNat : Nat), .int .u8 (c0.toNat : Nat)] 5)).drew = w9 at G9 ⊢
      clear hHeld hcv s0 s1 s2 s3 hy
      go_wp2
      refine wp_region_noPanic ?_
      refine wp_region_held_drew (S := fun w' => (w9).grownBy w' none) (by kernel_rfl) (gb_drew _ _) (fun hHeld => ?_)
      refine wpAnyH_take (i := 0) (v := ?_) (List.getElem?_toArray.trans rfl) (by kernel_rfl) (by kernel_rfl) (by kernel_rfl) (fun _ _ _ h => h) (Or.inl ⟨by rfl, ?_⟩) hHeld ?_
      rotate_left
      · intro w' hSw; go_simp; try with_reducible rfl
      try simp only [Act.put, List.setIfInBounds_toArray, List.set_cons_zero, List.set_cons_succ]
      refine wpAnyH_take (i := 1) (v := ?_) (List.getElem?_toArray.trans rfl) (by kernel_rfl) (by kernel_rfl) (by kernel_rfl) (fun _ _ _ h => h) (Or.inl ⟨by rfl, ?_⟩) hHeld ?_
      rotate_left
      · intro w' hSw; go_simp; try with_reducible rfl
      try simp only [Act.put, List.setIfInBounds_toArray, List.set_cons_zero, List.set_cons_succ]
      refine wpAnyH_take (i := 2) (v := ?_) (List.getElem?_toArray.trans rfl) (by kernel_rfl) (by kernel_rfl) (by kernel_rfl) (fun _ _ _ h => h) (Or.inl ⟨by rfl, ?_⟩) hHeld ?_
      rotate_left
      · intro w' hSw; have hxx := HX.out w' (gb_trans G9.out hSw); go_simp; try with_reducible rfl
      try simp only [Act.put, List.setIfInBounds_toArray, List.set_cons_zero, List.set_cons_succ]
      refine wpAnyH_take (i := 3) (v := ?_) (List.getElem?_toArray.trans rfl) (by kernel_rfl) (by kernel_rfl) (by kernel_rfl) (fun _ _ _ h => h) (Or.inl ⟨by rfl, ?_⟩) hHeld ?_
      rotate_left
      · intro w' hSw; go_simp; try with_reducible rfl
      try simp only [Act.put, List.setIfInBounds_toArray, List.set_cons_zero, List.set_cons_succ]
      refine wpAnyH_take (i := 4) (v := ?_) (List.getElem?_toArray.trans rfl) (by kernel_rfl) (by kernel_rfl) (by kernel_rfl) (fun _ _ _ h => h) (Or.inl ⟨by rfl, ?_⟩) hHeld ?_
      rotate_left
      · intro w' hSw; go_simp; try with_reducible rfl
      try simp only [Act.put, List.setIfInBounds_toArray, List.set_cons_zero, List.set_cons_succ]
      refine wpAnyH_take (i := 5) (v := ?_) (List.getElem?_toArray.trans rfl) (by kernel_rfl) (by kernel_rfl) (by kernel_rfl) (fun _ _ _ h => h) (Or.inl ⟨by rfl, ?_⟩) hHeld ?_
      rotate_left
      · intro w' hSw; go_simp; try with_reducible rfl
      try simp only [Act.put, List.setIfInBounds_toArray, List.set_cons_zero, List.set_cons_succ]
      refine wpAnyH_take (i := 6) (v := ?_) (List.getElem?_toArray.trans rfl) (by kernel_rfl) (by kernel_rfl) (by kernel_rfl) (fun _ _ _ h => h) (Or.inl ⟨by rfl, ?_⟩) hHeld ?_
      rotate_left
      · intro w' hSw; go_simp; try with_reducible rfl
      try simp only [Act.put, List.setIfInBounds_toArray, List.set_cons_zero, List.set_cons_succ]
      refine wpAnyH_take (i := 7) (v := ?_) (List.getElem?_toArray.trans rfl) (by kernel_rfl) (by kernel_rfl) (by kernel_rfl) (fun _ _ _ h => h) (Or.inl ⟨by rfl, ?_⟩) hHeld ?_
      rotate_left
      · intro w' hSw; go_simp; try with_reducible rfl
      try simp only [Act.put, List.setIfInBounds_toArray, List.set_cons_zero, List.set_cons_succ]
      refine wpAnyH_take (i := 8) (v := ?_) (List.getElem?_toArray.trans rfl) (by kernel_rfl) (by kernel_rfl) (by kernel_rfl) (fun _ _ _ h => h) (Or.inl ⟨by rfl, ?_⟩) hHeld ?_
      rotate_left
      · intro w' hSw; go_simp; try with_reducible rfl
      try simp only [Act.put, List.setIfInBounds_toArray, List.set_cons_zero, List.set_cons_succ]
      refine wpAnyH_take (i := 9) (v := ?_) (List.getElem?_toArray.trans rfl) (by kernel_rfl) (by kernel_rfl) (by kernel_rfl) (fun _ _ _ h => h) (Or.inl ⟨by rfl, ?_⟩) hHeld ?_
      rotate_left
      · intro w' hSw; have hxx := HC.out w' (gb_trans G9.out hSw); go_simp; try with_reducible rfl
      try simp only [Act.put, List.setIfInBounds_toArray, List.set_cons_zero, List.set_cons_succ]
      refine wpAnyH_take (i := 10) (v := ?_) (List.getElem?_toArray.trans rfl) (by kernel_rfl) (by kernel_rfl) (by kernel_rfl) (fun _ _ _ h => h) (Or.inl ⟨by rfl, ?_⟩) hHeld ?_
      rotate_left
      · intro w' hSw; go_simp; try with_reducible rfl
      try simp only [Act.put, List.setIfInBounds_toArray, List.set_cons_zero, List.set_cons_succ]
      refine wpAnyH_take (i := 11) (v := ?_) (List.getElem?_toArray.trans rfl) (by kernel_rfl) (by kernel_rfl) (by kernel_rfl) (fun _ _ _ h => h) (Or.inl ⟨by rfl, ?_⟩) hHeld ?_
      rotate_left
      · intro w' hSw; go_simp; try with_reducible rfl
      try simp only [Act.put, List.setIfInBounds_toArray, List.set_cons_zero, List.set_cons_succ]
      refine wpAnyH_take (i := 12) (v := ?_) (List.getElem?_toArray.trans rfl) (by kernel_rfl) (by kernel_rfl) (by kernel_rfl) (fun _ _ _ h => h) (Or.inl ⟨by rfl, ?_⟩) hHeld ?_
      rotate_left
      · intro w' hSw; have hxx := HA.out w' (gb_trans G9.out hSw); go_simp; try with_reducible rfl
      try simp only [Act.put, List.setIfInBounds_toArray, List.set_cons_zero, List.set_cons_succ]
      refine wpAnyH_ready (rs := [13]) (by kernel_rfl) (by simp) ?_
      refine AllReadyH.cons (List.getElem?_toArray.trans rfl) (fun K hK => ?_) AllReadyH.nil
      go_simp
      go_at_call 14
      have hdx := HD4.out _ (gb_trans G9.out hHeld)
      (with_reducible refine (HF1.out _ hdx).mono ?_)
      rintro e wN ⟨rfl, gN⟩
      refine hK.out _ _ (gb_trans hHeld gN) (fun hHeld => ?_)
      clear hK K
      try simp only [Act.put, List.setIfInBounds_toArray, List.set_cons_zero, List.set_cons_succ]
      refine wpAnyH_take (i := 14) (v := ?_) (List.getElem?_toArray.trans rfl) (by kernel_rfl) (by kernel_rfl) (by kernel_rfl) (fun _ _ _ h => h) (Or.inl ⟨by rfl, ?_⟩) hHeld ?_
      rotate_left
      · intro w' hSw; go_simp; try with_reducible rfl
      try simp only [Act.put, List.setIfInBounds_toArray, List.set_cons_zero, List.set_cons_succ]
      refine wpAnyH_take (i := 15) (v := ?_) (List.getElem?_toArray.trans rfl) (by kernel_rfl) (by kernel_rfl) (by kernel_rfl) (fun _ _ _ h => h) (Or.inl ⟨by rfl, ?_⟩) hHeld ?_
      rotate_left
      · intro w' hSw; go_simp; try with_reducible rfl
      try simp only [Act.put, List.setIfInBounds_toArray, List.set_cons_zero, List.set_cons_succ]
      refine wpAnyH_take (i := 16) (v := ?_) (List.getElem?_toArray.trans rfl) (by kernel_rfl) (by kernel_rfl) (by kernel_rfl) (fun _ _ _ h => h) (Or.inl ⟨by rfl, ?_⟩) hHeld ?_
      rotate_left
      · intro w' hSw; go_simp; try with_reducible rfl
      try simp only [Act.put, List.setIfInBounds_toArray, List.set_cons_zero, List.set_cons_succ]
      refine wpAnyH_take (i := 17) (v := ?_) (List.getElem?_toArray.trans rfl) (by kernel_rfl) (by kernel_rfl) (by kernel_rfl) (fun _ _ _ h => h) (Or.inl ⟨by rfl, ?_⟩) hHeld ?_
      rotate_left
      · intro w' hSw; go_simp; try with_reducible rfl
      try simp only [Act.put, List.setIfInBounds_toArray, List.set_cons_zero, List.set_cons_succ]
      refine wpAnyH_take (i := 18) (v := ?_) (List.getElem?_toArray.trans rfl) (by kernel_rfl) (by kernel_rfl) (by kernel_rfl) (fun _ _ _ h => h) (Or.inl ⟨by rfl, ?_⟩) hHeld ?_
      rotate_left
      · intro w' hSw; go_simp; try with_reducible rfl
      try simp only [Act.put, List.setIfInBounds_toArray, List.set_cons_zero, List.set_cons_succ]
      refine wpAnyH_ready (rs := [19]) (by kernel_rfl) (by simp) ?_
      refine AllReadyH.cons (List.getElem?_toArray.trans rfl) (fun K hK => ?_) AllReadyH.nil
      go_simp
      go_at_call 14
      have hdx := HD4.out _ (gb_trans G9.out hHeld)
      (with_reducible refine (HF2.out _ hdx).mono ?_)
      rintro e wN ⟨rfl, gN⟩
      refine hK.out _ _ (gb_trans hHeld gN) (fun hHeld => ?_)
      clear hK K
      try simp only [Act.put, List.setIfInBounds_toArray, List.set_cons_zero, List.set_cons_succ]
      refine wpAnyH_take (i := 20) (v := ?_) (List.getElem?_toArray.trans rfl) (by kernel_rfl) (by kernel_rfl) (by kernel_rfl) (fun _ _ _ h => h) (Or.inl ⟨by rfl, ?_⟩) hHeld ?_
      rotate_left
      · intro w' hSw; go_simp; try with_reducible rfl
      try simp only [Act.put, List.setIfInBounds_toArray, List.set_cons_zero, List.set_cons_succ]
      refine wpAnyH_take (i := 21) (v := ?_) (List.getElem?_toArray.trans rfl) (by kernel_rfl) (by kernel_rfl) (by kernel_rfl) (fun _ _ _ h => h) (Or.inl ⟨by rfl, ?_⟩) hHeld ?_
      rotate_left
      · intro w' hSw; go_simp; try with_reducible rfl
      try simp only [Act.put, List.setIfInBounds_toArray, List.set_cons_zero, List.set_cons_succ]
      refine wpAnyH_take (i := 22) (v := ?_) (List.getElem?_toArray.trans rfl) (by kernel_rfl) (by kernel_rfl) (by kernel_rfl) (fun _ _ _ h => h) (Or.inl ⟨by rfl, ?_⟩) hHeld ?_
      rotate_left
      · intro w' hSw; go_simp; try with_reducible rfl
      try simp only [Act.put, List.setIfInBounds_toArray, List.set_cons_zero, List.set_cons_succ]
      refine wpAnyH_take (i := 23) (v := ?_) (List.getElem?_toArray.trans rfl) (by kernel_rfl) (by kernel_rfl) (by kernel_rfl) (fun _ _ _ h => h) (Or.inl ⟨by rfl, ?_⟩) hHeld ?_
      rotate_left
      · intro w' hSw; go_simp; try with_reducible rfl
      try simp only [Act.put, List.setIfInBounds_toArray, List.set_cons_zero, List.set_cons_succ]
      refine wpAnyH_take (i := 24) (v := ?_) (List.getElem?_toArray.trans rfl) (by kernel_rfl) (by kernel_rfl) (by kernel_rfl) (fun _ _ _ h => h) (Or.inl ⟨by rfl, ?_⟩) hHeld ?_
      rotate_left
      · intro w' hSw; go_simp; try with_reducible rfl
      try simp only [Act.put, List.setIfInBounds_toArray, List.set_cons_zero, List.set_cons_succ]
      refine wpAnyH_ready (rs := [25]) (by kernel_rfl) (by simp) ?_
      refine AllReadyH.cons (List.getElem?_toArray.trans rfl) (fun K hK => ?_) AllReadyH.nil
      go_simp
      go_at_call 14
      have hdx := HD4.out _ (gb_trans G9.out hHeld)
      (with_reducible refine (HF3.out _ hdx).mono ?_)
      rintro e wN ⟨rfl, gN⟩
      refine hK.out _ _ (gb_trans hHeld gN) (fun hHeld => ?_)
      clear hK K
      try simp only [Act.put, List.setIfInBounds_toArray, List.set_cons_zero, List.set_cons_succ]
      refine wpAnyH_take (i := 26) (v := ?_) (List.getElem?_toArray.trans rfl) (by kernel_rfl) (by kernel_rfl) (by kernel_rfl) (fun _ _ _ h => h) (Or.inl ⟨by rfl, ?_⟩) hHeld ?_
      rotate_left
      · intro w' hSw; go_simp; try with_reducible rfl
      try simp only [Act.put, List.setIfInBounds_toArray, List.set_cons_zero, List.set_cons_succ]
      refine wpAnyH_take (i := 27) (v := ?_) (List.getElem?_toArray.trans rfl) (by kernel_rfl) (by kernel_rfl) (by kernel_rfl) (fun _ _ _ h => h) (Or.inl ⟨by rfl, ?_⟩) hHeld ?_
      rotate_left
      · intro w' hSw; go_simp; try with_reducible rfl
      try simp only [Act.put, List.setIfInBounds_toArray, List.set_cons_zero, List.set_cons_succ]
      refine wpAnyH_done (by kernel_rfl) ?_ _
      refine NoPanic.normal ?_
      go_wp2
      go_roundw
      case rel => exact ⟨k + 1, by omega, by go_num, gb_trans G9.out hHeld⟩
      case measure => simp [intOf]; omega
    · obtain rfl : k = 4 := by omega
      go_wp2_with (first
        | (go_at_call 7; first
            | ((with_reducible refine (HP1.out.1 _).mono ?_); rintro e v1 ⟨rfl, h1⟩)
            | ((with_reducible refine (HP2.out.1 _).mono ?_); rintro e v3 ⟨rfl, h3⟩)
            | ((with_reducible refine (seal_none (-1) _ _ (by decide)).mono ?_); rintro e v5 ⟨rfl, h5⟩))
        | (go_at_call 13; first
            | ((with_reducible refine (HP1.out.2 _).mono ?_); rintro e v2 ⟨rfl, h2⟩)
            | ((with_reducible refine (HP2.out.2 _).mono ?_); rintro e v4 ⟨rfl, h4⟩; have q4 := gb_trans hg (gb_trans h1 (gb_trans h2 (gb_trans h3 h4)))))
        | (go_at_call 9; (with_reducible refine (works_any _ (HD4.out _ (gb_trans q4 h5))).mono ?_); rintro e v6 ⟨rfl, h6⟩; have hd6 := HD4.out _ (gb_trans q4 (gb_trans h5 h6)))
        | (go_at_call 14; (with_reducible refine (HF0.out _ hd6).mono ?_); rintro e v7 ⟨rfl, h7⟩)
        | fail)
      go_ret
      exact ⟨rfl, gb_trans G4.out (gb_trans q4 (gb_trans h5 (gb_trans h6 h7)))⟩
end Go.Proofs.YthemolnhncjlmaaDoor
