/-
  The statements' own helper that makes writes, over this seat's translation; conditions: the slice reads as a list.
-/
import Derived.Test.YtefpnhckplcfgaaDoorFl1
namespace Go.Proofs.YtefpnhckplcfgaaDoor
open Go.RowKit

abbrev Lay := UInt8 × UInt8 × UInt8
def layC (l : List Lay) : List Value := l.flatMap fun x => [.int .u8 (x.1.toNat : Nat), .int .u8 (x.2.1.toNat : Nat), .int .u8 (x.2.2.toNat : Nat)]
def Lys (w : World) (v : Value) (l : List Lay) : Prop := Sl 3 w v l.length (layC l)
theorem layC_length (l : List Lay) : (layC l).length = l.length * 3 := by
  induction l with
  | nil => rfl
  | cons x l ih => show (layC l).length + 3 = _; rw [ih, List.length_cons]; omega
theorem layC_at (l : List Lay) (i : Nat) (x : Lay) (h : l[i]? = some x) : (layC l)[i * 3]? = some (.int .u8 (x.1.toNat : Nat)) ∧ (layC l)[i * 3 + 1]? = some (.int .u8 (x.2.1.toNat : Nat)) ∧ (layC l)[i * 3 + 2]? = some (.int .u8 (x.2.2.toNat : Nat)) := by
  induction l generalizing i with
  | nil => simp at h
  | cons y l ih =>
    cases i with
    | zero =>
      obtain rfl : y = x := by simpa using h
      exact ⟨rfl, rfl, rfl⟩
    | succ i =>
      have := ih i (by simpa using h)
      rw [show (i + 1) * 3 = i * 3 + 3 by omega]
      exact this
/-- The write that is drawn so. -/
def dataW (y z : UInt8) : ByteArray := if 250 < z.toNat then (secS y).extract 0 (256 - (z.toNat - 250)) else secS y
def layW (x : Lay) : Int × ByteArray := (((x.1.toNat % 10 : Nat) : Int) - 1, dataW x.2.1 x.2.2)
def wrsF (l : List Lay) : List (Int × ByteArray) := (l.take 20).map layW
theorem wrsF_length (l : List Lay) : (wrsF l).length = min 20 l.length := by simp [wrsF]
theorem wrC_snoc (l : List (Int × ByteArray)) (x : Int × ByteArray) : wrC (l ++ [x]) = wrC l ++ [.int .i64 x.1, .string x.2] := by simp [wrC]
theorem wts_of_owns {w : World} {base N : Nat} {v : Value} {R : List (Int × ByteArray)} (own : w.ownsRow base 47 2 v N (wrC R)) (h : R.length = N) : Wts w v R := by
  subst h; exact Sl.of_owns own
theorem Tryd.infoWr : (Tryd.prog.info? 47).map (fun i => (i.zero, i.size, i.bytes)) = some (some (.agg #[.int .i64 0, .string ⟨#[]⟩]), 2, 24) := by kernel_rfl
theorem cells2_new (w : World) (x y : Value) (t : TypeId) : ∀ j u, [x, y][j]? = some u → (w.alloc (.cells #[x, y] t)).cell? ((⟨w.heap.size, 0, none⟩ : Addr).add j) = some u := by
  intro j u hj
  rw [add_lit]
  exact (Blk.mk w t #[x, y]).cell j (by rw [List.getElem?_toArray]; exact hj)
theorem one_wr (k : Int) (s : ByteArray) : ∀ u ∈ [Value.int .i64 k, .string s], u.oneCell' = true := by
  intro u hu; simp at hu; rcases hu with rfl | rfl <;> rfl
def WritesGot (w : World) (l : List Lay) (e : Ending) (w' : World) : Prop := ∃ v, e = .returned v ∧ Wts w' v (wrsF l) ∧ w.grownBy w' none
set_option maxRecDepth 100000 in
set_option maxHeartbeats 1000000 in
theorem writes_any (vl : Value) (l : List Lay) (w : World) (hv : Lys w vl l) : Calls Tryd.prog 18 #[vl] w (WritesGot w l) := by
  obtain ⟨i0, hi0, hz0, hz1, hz2⟩ := info_parts Tryd.infoWr
  obtain ⟨ao, cap, rfl, _, _, hn, hx⟩ := hv
  have HN := Lib.hid hn
  have HX := Lib.hid hx
  clear hn hx
  go_enter Tryd.func18, Tryd.ntmps18
  go_wp2_with fail
  go_loopw [3, 4, 5, 6] (fun v3 v4 _ _ wr => ∃ k : Nat, k ≤ 20 ∧ k ≤ l.length ∧ v4 = .int .i64 k ∧ wr.ownsRow w.heap.size 47 2 v3 k (wrC ((l.take k).map layW)) ∧ w.grownBy wr none) (fun _ v _ _ _ => 20 - (intOf v).toNat)
  case atStart => exact ⟨0, by omega, by omega, rfl, World.ownsRow_nil _ _ _ _, gb_refl _ _⟩
  case round =>
    obtain ⟨k, hk, hkl, rfl, own, hg⟩ := hrel
    obtain ⟨o3, cap3, rfl, _⟩ := Sl.of_owns own
    by_cases h1 : k < l.length
    · have hd1 : decide ((k : Int) < (l.length : Int)) = true := decide_eq_true (by omega)
      by_cases h2 : k < 20
      · have hd2 : decide ((k : Int) < 20) = true := decide_eq_true (by omega)
        cases ao with
        | none => have := (HN.out rfl).1; omega
        | some x =>
          obtain ⟨⟨p, y, z⟩, hxk⟩ : ∃ q, l[k]? = some q := ⟨_, List.getElem?_eq_getElem h1⟩
          obtain ⟨q0, q1, q2⟩ := layC_at l k _ hxk
          have d0 := hg.cell (HX.out x rfl _ _ q0) (by simp)
          have d1 := hg.cell (HX.out x rfl _ _ q1) (by simp)
          have d2 := hg.cell (HX.out x rfl _ _ q2) (by simp)
          have d1' : wr.cell? ⟨(x.add (k * 3)).block, (x.add (k * 3)).off + 1, none⟩ = some (.int .u8 (y.toNat : Nat)) := by
            have : x.add (k * 3 + 1) = ⟨(x.add (k * 3)).block, (x.add (k * 3)).off + 1, none⟩ := by rw [← add_add]; rfl
            rw [← this]; exact d1
          have d2' : wr.cell? ⟨(x.add (k * 3)).block, (x.add (k * 3)).off + 2, none⟩ = some (.int .u8 (z.toNat : Nat)) := by
            have : x.add (k * 3 + 2) = ⟨(x.add (k * 3)).block, (x.add (k * 3)).off + 2, none⟩ := by rw [← add_add]; rfl
            rw [← this]; exact d2
          clear d1 d2 q0 q1 q2
          have ht : l.take (k + 1) = l.take k ++ [(p, y, z)] := by
            rw [take_snoc l k (p, y, z) h1]; simp [List.getD, hxk]
          have HT := Lib.hid ht
          have hp256 := p.toNat_lt
          have hz256 := z.toNat_lt
          have b5 := Blk.mk wr 61 #[.int .u8 (p.toNat : Nat), .int .u8 (y.toNat : Nat), .int .u8 (z.toNat : Nat)]
          have own0 := own.alloc (.cells #[.int .u8 (p.toNat : Nat), .int .u8 (y.toNat : Nat), .int .u8 (z.toNat : Nat)] 61)
          have g5 := gb_alloc wr (.cells #[.int .u8 (p.toNat : Nat), .int .u8 (y.toNat : Nat), .int .u8 (z.toNat : Nat)] 61) none
          have hk0 : (0 : Int) ≤ (k : Int) := by omega
          have hk1 : (k : Int) < (l.length : Int) := by omega
          clear ht hxk
          have hsz := secS_size y
          by_cases hzb : 250 < z.toNat
          · have hzd : decide ((250 : Int) < (z.toNat : Int)) = true := decide_eq_true (by omega)
            go_wp2_with (first
              | (go_at_call 21; (with_reducible refine (sector_any _ y _ rfl).mono ?_); rintro e w1 ⟨rfl, g1⟩; have own1 := own_keep0 own0 g1; have b51 := b5.keep0 g1; have c0 := b51.cell 0 rfl; have c1 := b51.cell 1 rfl; have c2 := b51.cell 2 rfl)
              | (at_builtin; go_must (refine wpList_append_own _ rfl _ _ 39 rfl w.heap.size 47 i0 (.agg #[.int .i64 0, .string ⟨#[]⟩]) 2 24 Tryd.underlying39 hi0 hz0 hz1 hz2 rfl (by decide) _ k _ rfl (own1.alloc _) ⟨w1.heap.size, 0, none⟩ 1 1 [.int .i64 ((p.toNat : Int) % 10 - 1), .string ((secS y).extract 0 (256 - (z.toNat - 250)))] rfl rfl (cells2_new _ _ _ _) (one_wr _ _) (by unfold maxLen; omega) (by omega) (by have := hg.size; have := g5.size; have := g1.size; simp at *; omega) ?_; intro v3 w3 own3 g3 _)))
            have hnew : w3.ownsRow w.heap.size 47 2 v3 (k + 1) (wrC ((l.take (k + 1)).map layW)) := by
              rw [HT.out, List.map_append, List.map_cons, List.map_nil, wrC_snoc]
              have e : layW (p, y, z) = ((p.toNat : Int) % 10 - 1, (secS y).extract 0 (256 - (z.toNat - 250))) := by unfold layW dataW; rw [if_pos hzb]; rfl
              rw [e]; exact own3
            have hgn := gb_app (gb_trans (gb_trans hg g5) g1) own1 (Nat.le_refl _) g3
            clear own3 g3
            go_wp2
            go_roundw
            case rel => exact ⟨k + 1, by omega, by omega, by go_num, hnew, hgn⟩
            case measure => simp [intOf]; omega
          · have hzd : decide ((250 : Int) < (z.toNat : Int)) = false := decide_eq_false (by omega)
            go_wp2_with (first
              | (go_at_call 21; (with_reducible refine (sector_any _ y _ rfl).mono ?_); rintro e w1 ⟨rfl, g1⟩; have own1 := own_keep0 own0 g1; have b51 := b5.keep0 g1; have c0 := b51.cell 0 rfl; have c1 := b51.cell 1 rfl; have c2 := b51.cell 2 rfl)
              | (at_builtin; go_must (refine wpList_append_own _ rfl _ _ 39 rfl w.heap.size 47 i0 (.agg #[.int .i64 0, .string ⟨#[]⟩]) 2 24 Tryd.underlying39 hi0 hz0 hz1 hz2 rfl (by decide) _ k _ rfl (own1.alloc _) ⟨w1.heap.size, 0, none⟩ 1 1 [.int .i64 ((p.toNat : Int) % 10 - 1), .string (secS y)] rfl rfl (cells2_new _ _ _ _) (one_wr _ _) (by unfold maxLen; omega) (by omega) (by have := hg.size; have := g5.size; have := g1.size; simp at *; omega) ?_; intro v3 w3 own3 g3 _)))
            have hnew : w3.ownsRow w.heap.size 47 2 v3 (k + 1) (wrC ((l.take (k + 1)).map layW)) := by
              rw [HT.out, List.map_append, List.map_cons, List.map_nil, wrC_snoc]
              have e : layW (p, y, z) = ((p.toNat : Int) % 10 - 1, secS y) := by unfold layW dataW; rw [if_neg hzb]; rfl
              rw [e]; exact own3
            have hgn := gb_app (gb_trans (gb_trans hg g5) g1) own1 (Nat.le_refl _) g3
            clear own3 g3
            go_wp2
            go_roundw
            case rel => exact ⟨k + 1, by omega, by omega, by go_num, hnew, hgn⟩
            case measure => simp [intOf]; omega
      · have hd2 : decide ((k : Int) < 20) = false := decide_eq_false (by omega)
        obtain rfl : k = 20 := by omega
        go_wp2
        go_ret
        exact ⟨_, rfl, wts_of_owns (R := (l.take 20).map layW) own (by simp; omega), hg⟩
    · have hd1 : decide ((k : Int) < (l.length : Int)) = false := decide_eq_false (by omega)
      obtain rfl : k = l.length := by omega
      have ht : (l.take 20).map layW = (l.take l.length).map layW := by rw [List.take_of_length_le (by omega), List.take_of_length_le (Nat.le_refl _)]
      have HT := Lib.hid ht
      clear ht
      go_wp2
      go_ret
      exact ⟨_, rfl, by unfold wrsF; rw [HT.out]; exact wts_of_owns (R := (l.take l.length).map layW) own (by simp), hg⟩
end Go.Proofs.YtefpnhckplcfgaaDoor
