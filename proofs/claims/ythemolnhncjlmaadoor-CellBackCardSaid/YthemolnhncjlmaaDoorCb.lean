/-
  CellBack, walked: true for all arguments, over this seat's translation; condition: the variable errors.errorType holds its type's handle.
-/
import Derived.Test.YthemolnhncjlmaaDoorCw
import Derived.Test.YthemolnhncjlmaaDoorSb
namespace Go.Proofs.YthemolnhncjlmaaDoor
open Go.RowKit

theorem digits_inj (n m : Nat) (hn : n < 4294967296) (hm : m < 4294967296) (h : digits n 4 = digits m 4) : n = m := by
  rw [digits_four, digits_four] at h
  simp only [List.cons.injEq, and_true] at h
  obtain ⟨h3, h2, h1, h0⟩ := h
  have e3 := congrArg UInt8.toNat h3
  have e2 := congrArg UInt8.toNat h2
  have e1 := congrArg UInt8.toNat h1
  have e0 := congrArg UInt8.toNat h0
  rw [u8_of _ (Nat.mod_lt _ (by decide)), u8_of _ (Nat.mod_lt _ (by decide))] at e3 e2 e1 e0
  omega
/-- With one byte another one it does not open, for its sum. -/
theorem open_turned (k : Nat) (b : List UInt8) (h : b.length ≤ 240) (i : Nat) (hi : i < 256) (c : UInt8) (hc : c ≠ (sealF k b).getD i 0) : openF ((sealF k b).set i c) = (8, 252) := by
  have hl : (sealF k b).length = 256 := sealF_length k b (by omega)
  have hs : (sealF k b).drop 252 = sumF ((sealF k b).take 252) := by rw [head_seal k b h, sum_seal k b h]
  generalize sealF k b = l at hl hs hc
  unfold openF
  rw [if_neg (by rw [List.length_set, hl]; decide), if_pos]
  intro e
  rcases Nat.lt_or_ge i 252 with h1 | h1
  · rw [List.drop_set_of_lt h1, List.take_set, hs] at e
    have hlt : i < (l.take 252).length := by simp; omega
    have e2 := digits_inj _ _ (moreN_lt _ _) (moreN_lt _ _) e
    rw [set_split _ _ hlt] at e2
    have e3 : l.take 252 = (l.take 252).take i ++ (l.take 252)[i] :: (l.take 252).drop (i + 1) := self_split _ _ hlt
    rw [congrArg (moreN 1) e3, sum_changed] at e2
    apply hc
    rw [← e2, List.getElem_take, List.getD_eq_getElem?_getD, List.getElem?_eq_getElem (by omega)]
    rfl
  · rw [List.take_set_of_le h1, ← hs] at e
    have e2 := congrArg (fun r : List UInt8 => r.getD (i - 252) 0) e
    simp only [List.getD_eq_getElem?_getD, List.getElem?_drop, show 252 + (i - 252) = i by omega] at e2
    rw [List.getElem?_set_self (by omega)] at e2
    exact hc (by rw [List.getD_eq_getElem?_getD]; exact e2)
set_option maxRecDepth 100000 in
set_option maxHeartbeats 4000000 in
theorem back_walk (a : Nat) (s : ByteArray) (p : Nat) (d : UInt8) (o : ByteArray) (w : World) (hd : Hd w) (ha : a < 256) (hp : p < 65536) (hs : s.size ≤ 9223372036854775807) (ho : o.size ≤ 9223372036854775807) :
    Calls Tryd.prog 5 #[.int .u8 (a : Nat), .string s, .agg #[.int .u16 (p : Nat), .int .u8 (d.toNat : Nat), .string o]] w (TrueGot w) := by
  obtain ⟨k, hk⟩ : ∃ k, k = 1 + a % 255 := ⟨_, rfl⟩
  have hk1 : 1 ≤ k := by omega
  have hk2 : k < 256 := by omega
  have ek : 1 + (a : Int).tmod 255 = (k : Int) := by rw [Int.tmod_eq_emod_of_nonneg (by omega)]; omega
  have ek2 : 1 + (a : Int) % 255 = (k : Int) := by omega
  have haw : IntKind.i64.wrap (a : Int) = (a : Int) := IntWalk.i64_in _ (by omega)
  obtain ⟨t, ht⟩ : ∃ t, s.extract 0 (min (s.size : Int) 240).toNat = t := ⟨_, rfl⟩
  have htl : t.size ≤ 240 := by rw [← ht, ByteArray.size_extract]; omega
  obtain ⟨u, hu⟩ : ∃ u, o.extract 0 (min (o.size : Int) 300).toNat = u := ⟨_, rfl⟩
  obtain ⟨S, hS⟩ : ∃ S : ByteArray, S = ⟨(sealF k t.data.toList).toArray⟩ := ⟨_, rfl⟩
  have HSl := Lib.hid (show S.data.toList = sealF k t.data.toList by rw [hS])
  have HSeal := Lib.hid (show ∀ W, Calls Tryd.prog 7 #[.int .i64 (k : Nat), .string t] W (fun e w' => e = .returned (.tuple #[.string S, .int .i64 0]) ∧ W.grownBy w' none) from fun W => (seal_any (k : Nat) t W).mono fun e w' h => by
    have he : sealE (k : Nat) t.data.toList = 0 := by unfold sealE; rw [if_neg (by omega), if_neg (by show ¬ 240 < t.size; omega)]
    have hs : sealS (k : Nat) t.data.toList = sealF k t.data.toList := by unfold sealS; rw [he, if_pos rfl, Int.toNat_natCast]
    unfold Sealed at h
    rw [he, hs, ← hS] at h
    exact h)
  have HOpen := Lib.hid (show ∀ W, Calls Tryd.prog 13 #[.string S] W (fun e w' => e = .returned (.tuple #[.int .i64 (k : Nat), .string t, .nilIface]) ∧ W.grownBy w' none) from fun W => (open_any S W).mono fun e w' h => by
    have ho : openF S.data.toList = (0, 0) := by rw [HSl.out]; exact open_seal k t.data.toList htl hk1 hk2
    obtain ⟨h1, h2⟩ := h.1 (by rw [ho])
    rw [HSl.out, kind_seal k _ hk2, body_seal k _ htl] at h1
    exact ⟨h1, h2⟩)
  have HD := Lib.hid hd
  have HK := Lib.hid (And.intro hk1 (And.intro hk2 htl))
  have k0 := Blk.mk w 35 #[.int .u16 (p : Nat), .int .u8 (d.toNat : Nat), .string o]
  have g0 := gb_alloc w (.cells #[.int .u16 (p : Nat), .int .u8 (d.toNat : Nat), .string o] 35) none
  clear hS hd hk
  go_enter Tryd.func5, Tryd.ntmps5
  go_wp2_with (first
    | (go_at_call 9; (with_reducible refine (works_any _ (HD.out.keep0 g0)).mono ?_); rintro e w1 ⟨rfl, g1⟩)
    | (go_at_call 7; (with_reducible refine (HSeal.out _).mono ?_); rintro e w2 ⟨rfl, g2⟩)
    | (go_at_call 13; (with_reducible refine (HOpen.out _).mono ?_); rintro e w3 ⟨rfl, g3⟩; obtain ⟨cap, w4, hcv, hrow, hb4, hz4⟩ := brow_new w3 S)
    | fail)
  have hSs : S.size = 256 := by show S.data.size = 256; rw [← Array.length_toList, HSl.out, sealF_length k _ (by have := HK.out.2.2; show t.size ≤ _; omega)]
  have hSl : S.data.toList.length = 256 := hSs
  have gb4 : w.grownBy w4 none := gb_trans g0 (gb_trans g1 (gb_trans g2 (gb_trans g3 (gb_of_below hb4))))
  have k4 := k0.keep0 (gb_trans g1 (gb_trans g2 (gb_trans g3 (gb_of_below hb4))))
  obtain ⟨r, hr⟩ : ∃ r, p % 256 = r := ⟨_, rfl⟩
  have hrl : r < 256 := by omega
  have er : (p : Int).tmod 256 = (r : Int) := by rw [Int.tmod_eq_emod_of_nonneg (by omega)]; omega
  have er2 : (p : Int) % 256 = (r : Int) := by omega
  have hpw : IntKind.i64.wrap (p : Int) = (p : Int) := IntWalk.i64_in _ (by omega)
  have hrw : IntKind.i64.wrap (r : Int) = (r : Int) := IntWalk.i64_in _ (by omega)
  have hri : (r : Int) < 256 := by omega
  obtain ⟨cb, cf⟩ := hrow r (by omega)
  have hget : S.data.toList[r]'(by omega) = S.data.toList.getD r 0 := by rw [List.getD_eq_getElem?_getD, List.getElem?_eq_getElem (by omega)]; rfl
  rw [hget] at cb
  obtain ⟨c, hc⟩ : ∃ c, S.data.toList.getD r 0 = c := ⟨_, rfl⟩
  rw [hc] at cb
  have hx : bits .xor .u8 (c.toNat : Int) (d.toNat : Int) = ((c ^^^ d).toNat : Nat) := xor_byte c d
  have c0 := k4.cell 0 rfl
  have c1 := k4.cell 1 rfl
  have c2 := k4.cell 2 rfl
  simp only [List.getElem_toArray, List.getElem_cons_zero, List.getElem_cons_succ] at c0 c1 c2
  have HR := Lib.hid hrow
  have HZ3 := Lib.hid (show w.heap.size < w3.heap.size by have h1 := g1.size; have h2 := g2.size; have h3 := g3.size; rw [World.size_alloc] at h1; omega)
  have HG4 := Lib.hid gb4
  have HK4 := Lib.hid k4
  have HC := Lib.hid hc
  clear hrow gb4 k4 hc g0 g1 g2 g3 hb4 k0 hget hr
  have H34 : w.heap.size < w3.heap.size := HZ3.out
  go_region
  have R5 : ByteRow w3.heap.size (w4.setCell ⟨w3.heap.size, r, none⟩ (.int .u8 ((c.toNat ^^^ d.toNat : Nat) : Int))).drew (S.data.toList.set r (c ^^^ d)) := brow_drew (brow_set HR.out (by omega) (c ^^^ d) (by simp))
  have K5 := ((HK4.out.keep (gb_set w4 w3.heap.size r none (.int .u8 ((c.toNat ^^^ d.toNat : Nat) : Int))) (ne_some (by omega)))).keep0 (gb_drew _ none)
  have G5 := gb_trans (gb_step HG4.out (gb_set w4 w3.heap.size r none (.int .u8 ((c.toNat ^^^ d.toNat : Nat) : Int))) (by omega)) (gb_drew _ none)
  generalize (w4.setCell ⟨w3.heap.size, r, none⟩ (.int .u8 ((c.toNat ^^^ d.toNat : Nat) : Int))).drew = w5 at R5 K5 G5 ⊢
  have hst := brow_str R5 S.size cap (by rw [List.length_set]; rfl)
  obtain ⟨T, hT⟩ : ∃ T : ByteArray, T = ⟨(S.data.toList.set r (c ^^^ d)).toArray⟩ := ⟨_, rfl⟩
  rw [← hT, hSs] at hst
  have c1 := K5.cell 1 rfl
  have c2 := K5.cell 2 rfl
  simp only [List.getElem_toArray, List.getElem_cons_zero, List.getElem_cons_succ] at c1 c2
  have HD5 := Lib.hid (HD.out.keep0 G5)
  have HG5 := Lib.hid G5
  have HK5 := Lib.hid K5
  have HT := Lib.hid (show d ≠ 0 → openF T.data.toList = (8, 252) from fun h => by
    rw [hT]
    show openF (S.data.toList.set r (c ^^^ d)) = _
    have e := HSl.out
    rw [e]
    refine open_turned k _ HK.out.2.2 r hrl _ ?_
    rw [← e, HC.out]
    intro e2
    exact h ((xor_same c d).1 e2))
  clear R5 K5 G5 hT hcv cb cf hx c0
  by_cases hz : (openF u.data.toList).1 = 0
  · have HO2 := Lib.hid (show ∀ W, Calls Tryd.prog 13 #[.string u] W (fun e w' => e = .returned (.tuple #[.int .i64 (kindF u.data.toList : Nat), .string ⟨(bodyF u.data.toList).toArray⟩, .nilIface]) ∧ W.grownBy w' none) from fun W => (open_any u W).mono fun e w' h => h.1 hz)
    have HS2 := Lib.hid (show ∀ W, Calls Tryd.prog 7 #[.int .i64 (kindF u.data.toList : Nat), .string ⟨(bodyF u.data.toList).toArray⟩] W (fun e w' => e = .returned (.tuple #[.string u, .int .i64 0]) ∧ W.grownBy w' none) from fun W => (seal_any (kindF u.data.toList : Nat) ⟨(bodyF u.data.toList).toArray⟩ W).mono fun e w' h => by
      obtain ⟨q1, q2, q3⟩ := seal_open _ (openF_zero _ hz)
      have q4 := kindF_lt u.data.toList
      have he : sealE (kindF u.data.toList : Nat) (bodyF u.data.toList) = 0 := by unfold sealE; rw [if_neg (by omega), if_neg (by omega)]
      have hs : sealS (kindF u.data.toList : Nat) (bodyF u.data.toList) = u.data.toList := by unfold sealS; rw [he, if_pos rfl, Int.toNat_natCast]; exact q1.symm
      unfold Sealed at h
      rw [show (⟨(bodyF u.data.toList).toArray⟩ : ByteArray).data.toList = bodyF u.data.toList from rfl, he, hs] at h
      refine ⟨h.1.trans ?_, h.2⟩
      rw [← text_eq u _ rfl]
      rfl)
    generalize kindF u.data.toList = k7 at HO2 HS2
    generalize (⟨(bodyF u.data.toList).toArray⟩ : ByteArray) = b7 at HO2 HS2
    clear hz
    by_cases hdz : d = 0
    · subst hdz
      go_wp2_with (first
        | (go_at_call 13; (with_reducible refine (HO2.out _).mono ?_); rintro e w7 ⟨rfl, g7⟩)
        | (go_at_call 7; (with_reducible refine (HS2.out _).mono ?_); rintro e w8 ⟨rfl, g8⟩)
        | fail)
      go_ret
      exact ⟨rfl, gb_trans HG5.out (gb_trans g7 (g8))⟩
    · have hdn : d.toNat ≠ 0 := fun e => hdz (UInt8.toNat_inj.1 e)
      have hd2 : ((d.toNat : Int) != 0) = true := by simp [hdn]
      have hd3 : ((d.toNat : Int) == 0) = false := by simp [hdn]
      go_wp2_with (first
        | (go_at_call 14; (with_reducible refine (fails_any T 8 252 8 252 _ HD5.out rfl rfl (HT.out hdz) (by decide)).mono ?_); rintro e w6 ⟨rfl, g6⟩; have c2 := (HK5.out.keep0 g6).cell 2 rfl; simp only [List.getElem_toArray, List.getElem_cons_zero, List.getElem_cons_succ] at c2)
        | (go_at_call 13; (with_reducible refine (HO2.out _).mono ?_); rintro e w7 ⟨rfl, g7⟩)
        | (go_at_call 7; (with_reducible refine (HS2.out _).mono ?_); rintro e w8 ⟨rfl, g8⟩)
        | fail)
      go_ret
      exact ⟨rfl, gb_trans HG5.out (gb_trans g6 (gb_trans g7 (g8)))⟩
  · have HO2 := Lib.hid (show ∀ W, Calls Tryd.prog 13 #[.string u] W (fun e w' => ∃ a : Nat, e = .returned (.tuple #[.int .i64 0, .string ⟨#[]⟩, .iface 66 (.pointer (some ⟨a, 0, none⟩))]) ∧ W.grownBy w' none) from fun W => (open_any u W).mono fun e w' h => by
      obtain ⟨a, h1, _, _, h4⟩ := h.2 hz
      exact ⟨a, h1, h4⟩)
    clear hz
    by_cases hdz : d = 0
    · subst hdz
      go_wp2_with (first
        | (go_at_call 13; (with_reducible refine (HO2.out _).mono ?_); rintro e w7 ⟨a7, rfl, g7⟩)
        | fail)
      go_ret
      exact ⟨rfl, gb_trans HG5.out (g7)⟩
    · have hdn : d.toNat ≠ 0 := fun e => hdz (UInt8.toNat_inj.1 e)
      have hd2 : ((d.toNat : Int) != 0) = true := by simp [hdn]
      have hd3 : ((d.toNat : Int) == 0) = false := by simp [hdn]
      go_wp2_with (first
        | (go_at_call 14; (with_reducible refine (fails_any T 8 252 8 252 _ HD5.out rfl rfl (HT.out hdz) (by decide)).mono ?_); rintro e w6 ⟨rfl, g6⟩; have c2 := (HK5.out.keep0 g6).cell 2 rfl; simp only [List.getElem_toArray, List.getElem_cons_zero, List.getElem_cons_succ] at c2)
        | (go_at_call 13; (with_reducible refine (HO2.out _).mono ?_); rintro e w7 ⟨a7, rfl, g7⟩)
        | fail)
      go_ret
      exact ⟨rfl, gb_trans HG5.out (gb_trans g6 (g7))⟩
end Go.Proofs.YthemolnhncjlmaaDoor
