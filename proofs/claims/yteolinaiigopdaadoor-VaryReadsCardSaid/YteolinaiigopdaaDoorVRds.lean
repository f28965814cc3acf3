/-
  What VaryReads answers, over this seat's translation: true; conditions: the variable errors.errorType holds its type's handle, the slice reads as fields whose numbers fit.
-/
import Derived.Test.YteolinaiigopdaaDoorVPuts
import Derived.Test.YteolinaiigopdaaDoorVOn
import Derived.Test.YteolinaiigopdaaDoorVTurn
namespace Go.Proofs.YteolinaiigopdaaDoor
open Go.RowKit

theorem readGo_ne (all : Nat) : ∀ (n : Nat) (l : List Fd) (r : List UInt8) (c p : Nat), readGo all n l r = .error (c, p) → c ≠ 0 := by
  intro n
  induction n with
  | zero => intro l r c p h; cases h
  | succ n ih =>
    intro l r c p h
    cases r with
    | nil => cases h
    | cons x r =>
      rw [readGo] at h
      cases hf : fieldR x r l with
      | error c' => rw [hf] at h; injection h with h; injection h with h1 _; rw [← h1]; exact fieldR_ne hf
      | ok pr => obtain ⟨f, r'⟩ := pr; rw [hf] at h; exact ih _ _ _ _ h
/-- Fields were read. -/
def RReadOk (w : World) (l : List Fd) (e : Ending) (w' : World) : Prop := ∃ v, e = .returned (.tuple #[v, .agg #[.int .i64 0, .int .i64 0]]) ∧ Fs w' v l ∧ w.grownBy w' none
theorem rread_ok (s : ByteArray) (l : List Fd) (w : World) (hs : s.size ≤ 1000000) (h : readS s.data.toList = .ok l) : Calls Tryd.prog 16 #[.string s] w (RReadOk w l) := by
  refine (ref_read s w hs).mono ?_
  rintro e w' ⟨h1, h2⟩
  rw [h] at h2
  obtain ⟨v, rfl, hF⟩ := h2
  exact ⟨v, rfl, hF, h1⟩
theorem rread_bad (s : ByteArray) (c p : Nat) (w : World) (hs : s.size ≤ 1000000) (h : readS s.data.toList = .error (c, p)) : Calls Tryd.prog 16 #[.string s] w fun e w' => e = .returned (.tuple #[.slice none 0 0, .agg #[.int .i64 c, .int .i64 p]]) ∧ w.grownBy w' none := by
  refine (ref_read s w hs).mono ?_
  rintro e w' ⟨h1, h2⟩
  rw [h] at h2
  exact ⟨h2, h1⟩
/-- The three texts. -/
def Texts (w : World) (s9 : Value) (wx : World) : Prop :=
  ∃ (A : Nat) (T0 T1 T2 : ByteArray), s9 = .pointer (some ⟨A, 0, none⟩) ∧ Blk wx A 39 #[.string T0, .string T1, .string T2] ∧ T0.size ≤ 64320 ∧ T1.size ≤ 64320 ∧ T2.size ≤ 64320 ∧ w.grownBy wx none

set_option maxRecDepth 100000 in
set_option maxHeartbeats 4000000 in
theorem reads_walk (s : ByteArray) (v : Value) (l : List Fd) (ta tb : Nat) (ts : Int) (w : World) (hd : Hd w) (hv : Fs w v l) (hok : ∀ f ∈ l, f.ok) (hl : l.length ≤ 9223372036854775807) (hs : s.size ≤ 9223372036854775807) (hta : ta < 65536) (htb : tb < 256) (hts : -32768 ≤ ts) (hts2 : ts ≤ 32767) :
    Calls Tryd.prog 4 #[.string s, v, .agg #[.int .u16 ta, .int .u8 tb, .int .i16 ts]] w fun e w' => e = .returned (.bool true) ∧ w.grownBy w' none := by
  have HO := Lib.hid hok
  clear hok
  obtain ⟨w0, hw0⟩ : ∃ w0 : World, w0 = w.alloc (.cells #[.int .u16 ta, .int .u8 tb, .int .i16 ts] 37) := ⟨_, rfl⟩
  have k0 : Blk w0 w.heap.size 37 #[.int .u16 ta, .int .u8 tb, .int .i16 ts] := by rw [hw0]; exact Blk.mk _ _ _
  have g0 : w.grownBy w0 none := by rw [hw0]; exact gb_alloc _ _ _
  have HW0 := Lib.hid hw0
  clear hw0
  go_enter Tryd.func4, Tryd.ntmps4
  go_wp2_with fail
  rw [← HW0.out]
  ((with_reducible refine (few_zero v l _ (hv.keep0 g0) HO.out hl).mono ?_); rintro e w2 ⟨v2, m, rfl, f2, hm40, hmok, g2⟩)
  have HM := Lib.hid hmok
  have k2 := k0.keep0 g2
  replace g2 := gb_trans g0 g2
  clear hmok k0 g0
  obtain ⟨B, hB⟩ : ∃ B : ByteArray, B = ⟨(putS m).1.toArray⟩ := ⟨_, rfl⟩
  obtain ⟨c, hc⟩ : ∃ c, (putS m).2 = c := ⟨_, rfl⟩
  have hBs : B.size ≤ 64320 := by
    have h1 := putS_length m (fun f hf => (HM.out f hf).1.2.2.1)
    rw [hB]; simpa [ByteArray.size] using h1
  have HB := Lib.hid hB
  have HC := Lib.hid hc
  clear hB hc
  go_wp2_with fail
  ((with_reducible refine (ref_put_as v2 m B c _ f2 (fun f hf => (HM.out f hf).1) (by omega) HB.out HC.out).mono ?_); rintro e w3 ⟨rfl, g3⟩)
  have k3 := k2.keep0 g3
  replace g3 := gb_trans g2 g3
  clear g2 f2 k2
  go_upto_region 2 with (fail)
  go_cut [9] (fun s9 wx => Texts w s9 wx)
  case first =>
    have c0 := Blk.cell k3 0 rfl
    have c1 := Blk.cell k3 1 rfl
    have c2 := Blk.cell k3 2 rfl
    have hlt := Blk.lt k3
    have n0 := World.new_ne w3 ⟨w.heap.size, 0, none⟩ c0
    have hm0 : (0 : Int) ≤ min (s.size : Int) 1000 := by omega
    have hm1 : min (s.size : Int) 1000 ≤ (s.size : Int) := by omega
    have hT0 : (s.extract 0 (min (s.size : Int) 1000).toNat).size ≤ 64320 := by simp; omega
    go_region_held3 (fun w' => w'.cell? ⟨w.heap.size, 0, none⟩ = some (.int .u16 ta) ∧ w'.cell? ⟨w.heap.size, 1, none⟩ = some (.int .u8 tb) ∧ w'.cell? ⟨w.heap.size, 2, none⟩ = some (.int .i16 ts)) (first | go_keep | exact d1)
      (first | (go_at_call 14; refine (turned_any B ta tb ts _ (by omega) hta htb hts hts2).mono ?_; rintro e w4 ⟨S4, rfl, hS4, g4⟩; (first | (have k4 := (k3.keep0 (gb_drew _ none)).keep0 g4; replace g4 := gb_trans (gb_drew w3 none) g4) | (have k4 := ((k3.keep0 (gb_alloc _ _ none)).keep0 (gb_drew _ none)).keep0 g4; have ka := ((Blk.mk w3 39 #[.string ⟨#[]⟩, .string ⟨#[]⟩, .string ⟨#[]⟩]).keep0 (gb_drew _ none)).keep0 g4; have q0 := Blk.cell ka 0 rfl; have q1 := Blk.cell ka 1 rfl; have q2 := Blk.cell ka 2 rfl; have p0 := Blk.free ka 0; have p1 := Blk.free ka 1; have p2 := Blk.free ka 2; replace g4 := gb_trans (gb_trans (gb_alloc w3 _ none) (gb_drew _ none)) g4)); have d1 : w4.cell? ⟨w.heap.size, 0, none⟩ = some (.int .u16 ta) ∧ w4.cell? ⟨w.heap.size, 1, none⟩ = some (.int .u8 tb) ∧ w4.cell? ⟨w.heap.size, 2, none⟩ = some (.int .i16 ts) := ⟨Blk.cell k4 0 rfl, Blk.cell k4 1 rfl, Blk.cell k4 2 rfl⟩))
    all_goals go_wp2_with fail
    all_goals go_meet
    all_goals first
      | exact ⟨_, _, _, _, rfl, Blk.mk _ _ _, hT0, hBs, Nat.le_trans hS4 hBs, gb_trans (gb_trans g3 g4) (gb_alloc _ _ _)⟩
      | exact ⟨_, _, _, _, rfl, Blk.set (Blk.set (Blk.set ka 0 _) 1 _) 2 _, hT0, hBs, Nat.le_trans hS4 hBs, gb_step (gb_step (gb_step (gb_trans g3 g4) (gb_set _ _ _ _ _) g3.size) (gb_set _ _ _ _ _) g3.size) (gb_set _ _ _ _ _) g3.size⟩
  case rest =>
    obtain ⟨A, T0, T1, T2, rfl, kA, h0, h1, h2, gx⟩ := hcut
    clear k3 g3 hBs
    go_wp2
    go_loopw [10, 11, 12, 13, 14] (fun v10 _ _ _ _ wr => ∃ k : Nat, k ≤ 3 ∧ v10 = .int .i64 k ∧ Blk wr A 39 #[.string T0, .string T1, .string T2] ∧ w.grownBy wr none) (fun i _ _ _ _ _ => 3 - (intOf i).toNat)
    case atStart => exact ⟨0, by omega, rfl, kA, gx⟩
    case round =>
      obtain ⟨k, hk, rfl, kr, hg⟩ := hrel
      have hdr := hd.keep0 hg
      by_cases hlt : k < 3
      · obtain ⟨X, hX, hXs⟩ : ∃ X : ByteArray, wr.cell? ⟨A, k, none⟩ = some (.string X) ∧ X.size ≤ 1000000 := by
          rcases (show k = 0 ∨ k = 1 ∨ k = 2 by omega) with rfl | rfl | rfl
          · exact ⟨T0, Blk.cell kr 0 rfl, by omega⟩
          · exact ⟨T1, Blk.cell kr 1 rfl, by omega⟩
          · exact ⟨T2, Blk.cell kr 2 rfl, by omega⟩
        have hk0 : (0 : Int) ≤ (k : Int) := Int.natCast_nonneg _
        have hk1 : (k : Int) < 3 := by omega
        go_wp2_with fail
        cases hr : readS X.data.toList with
        | ok m2 =>
          obtain ⟨_, hp32, _⟩ := back2 _ _ hr
          have HR := Lib.hid hr
          clear hr
          ((with_reducible refine (read_ok X m2 _ hXs HR.out).mono ?_); rintro e w6 ⟨v6, rfl, f6, g6⟩)
          have hX6 := g6.cell hX (by simp)
          have kr6 := kr.keep0 g6
          replace g6 := gb_trans hg g6
          clear hX kr hg
          go_wp2_with fail
          ((with_reducible refine (rread_ok X m2 _ hXs HR.out).mono ?_); rintro e w7 ⟨v7, rfl, f7, g7⟩)
          have f67 := f6.keep0 g7
          have kr7 := kr6.keep0 g7
          replace g7 := gb_trans g6 g7
          clear hX6 kr6 g6 f6
          obtain ⟨w8, hw8⟩ : ∃ w8 : World, w8 = w7.alloc (.cells #[.int .i64 0, .int .i64 0] 45) := ⟨_, rfl⟩
          have g8 : w7.grownBy w8 none := by rw [hw8]; exact gb_alloc _ _ _
          have kr8 := kr7.keep0 g8
          have f68 := f67.keep0 g8
          have f8 := f7.keep0 g8
          replace g8 := gb_trans g7 g8
          have HW8 := Lib.hid hw8
          clear hw8 kr7 f67 f7 g7
          go_wp2_with fail
          rw [← HW8.out]
          ((with_reducible refine (told_nil 0 _).mono ?_); rintro e w9 ⟨rfl, g9⟩)
          go_wp2_with fail
          ((with_reducible refine (ref_same v6 v7 m2 _ (f68.keep0 g9) (f8.keep0 g9) (by omega)).mono ?_); rintro e w10 ⟨rfl, g10⟩)
          have hRel : Blk w10 A 39 #[.string T0, .string T1, .string T2] ∧ w.grownBy w10 none := ⟨(kr8.keep0 g9).keep0 g10, gb_trans (gb_trans g8 g9) g10⟩
          clear kr8 g8 f8 f68 g9 g10
          go_wp2
          go_roundw
          case rel => exact ⟨k + 1, by omega, by go_num, hRel⟩
          case measure => simp [intOf]; omega
        | error q =>
          obtain ⟨cd, pl⟩ := q
          have hne := readGo_ne _ _ _ _ _ _ hr
          have hne' : ((cd : Int) == 0) = false := by rw [beq_eq_false_iff_ne]; omega
          have HR := Lib.hid hr
          clear hr
          ((with_reducible refine (read_bad X cd pl _ hXs HR.out).mono ?_); rintro e w6 ⟨a6, rfl, f6, g6⟩)
          have hX6 := g6.cell hX (by simp)
          have kr6 := kr.keep0 g6
          replace g6 := gb_trans hg g6
          clear hX kr hg
          go_wp2_with fail
          ((with_reducible refine (rread_bad X cd pl _ hXs HR.out).mono ?_); rintro e w7 ⟨rfl, g7⟩)
          have f7 := Blk.keep0 f6 g7
          have kr7 := kr6.keep0 g7
          replace g7 := gb_trans g6 g7
          clear hX6 kr6 g6 f6
          obtain ⟨w8, hw8⟩ : ∃ w8 : World, w8 = w7.alloc (.cells #[.int .i64 cd, .int .i64 pl] 45) := ⟨_, rfl⟩
          have g8 : w7.grownBy w8 none := by rw [hw8]; exact gb_alloc _ _ _
          have kr8 := kr7.keep0 g8
          have f8 : Ft w8 a6 cd pl := Blk.keep0 f7 g8
          replace g8 := gb_trans g7 g8
          have hd8 := hd.keep0 g8
          have HW8 := Lib.hid hw8
          clear hw8 kr7 f7 g7
          go_wp2_with fail
          rw [← HW8.out]
          ((with_reducible refine (told_fault a6 cd pl _ hd8 f8 hne').mono ?_); rintro e w9 ⟨rfl, g9⟩)
          go_wp2_with fail
          ((with_reducible refine (ref_same (.slice none 0 0) (.slice none 0 0) [] _ (Fs.nil _) (Fs.nil _) (by simp)).mono ?_); rintro e w10 ⟨rfl, g10⟩)
          have hRel : Blk w10 A 39 #[.string T0, .string T1, .string T2] ∧ w.grownBy w10 none := ⟨(kr8.keep0 g9).keep0 g10, gb_trans (gb_trans g8 g9) g10⟩
          clear kr8 g8 f8 g9 g10
          go_wp2
          go_roundw
          case rel => exact ⟨k + 1, by omega, by go_num, hRel⟩
          case measure => simp [intOf]; omega
      · go_wp2_with fail
        ((with_reducible refine (works_any _ hdr).mono ?_); rintro e w9 ⟨rfl, g9⟩)
        go_wp2
        go_ret
        exact ⟨rfl, gb_trans hg g9⟩
end Go.Proofs.YteolinaiigopdaaDoor
