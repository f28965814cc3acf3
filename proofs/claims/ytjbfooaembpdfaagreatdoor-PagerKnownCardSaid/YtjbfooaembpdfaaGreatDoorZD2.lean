/-
  Texts of one layer, one behind the other, each with its own sentence; conditions: those that each law states.
-/
import Derived.Deep.RegionHeld3
import Derived.Deep.AppendLies
import Derived.Deep.DeepCutAuto
import Derived.IntWalk
import Derived.Outline
import Derived.Laws.MakeOwn
import Derived.Laws.OwnMore
import Derived.Test.YtjbfooaembpdfaaGreatDoorZD1
set_option linter.unusedSimpArgs false
set_option linter.unusedVariables false

/-
  Which fate choices tell, by the document's own answer (foyerref04.Read), over this seat's translation; conditions: the numbers fit their kinds, the slice reads as a list of bytes.
-/
namespace Go.Proofs.YtjbfooaembpdfaaGreatDoor.D5
open Go.RowKit

/-- Did the i-th write come, by these choices? -/
def wentB (cs : List UInt8) (i : Nat) : Bool := decide (i / 8 < cs.length) && decide ((cs.getD (i / 8) 0).toNat / 2 ^ (i % 8) % 2 = 1)
def cameF (cs : List UInt8) (n : Nat) : List Bool := (List.range n).map (wentB cs)
theorem cameF_succ (cs : List UInt8) (n : Nat) : cameF cs (n + 1) = cameF cs n ++ [wentB cs n] := by simp [cameF, List.range_succ]
theorem cameF_length (cs : List UInt8) (n : Nat) : (cameF cs n).length = n := by simp [cameF]
/-- Is one of them torn? -/
def tornB (cs : List UInt8) (n : Nat) : Bool := decide ((n + 7) / 8 + 3 ≤ cs.length) && (decide ((cs.getD ((n + 7) / 8) 0).toNat < 128) && decide (0 < (cameTo (cameF cs n) n).length))
def tornF (cs : List UInt8) (n : Nat) : Int := if tornB cs n = true then (((cameTo (cameF cs n) n).getD ((cs.getD ((n + 7) / 8) 0).toNat % (cameTo (cameF cs n) n).length) 0 : Nat) : Int) else -1
def atF (cs : List UInt8) (n : Nat) : Int := if tornB cs n = true then (((256 * (cs.getD ((n + 7) / 8 + 1) 0).toNat + (cs.getD ((n + 7) / 8 + 2) 0).toNat) % 257 : Nat) : Int) else 0
theorem bytes_at {l : List UInt8} {j : Nat} (h : j < l.length) : (bytesC l)[j]? = some (.int .u8 ((l.getD j 0).toNat : Nat)) := by simp [bytesC, h, List.getD]

theorem ints_at {l : List Nat} {j : Nat} (h : j < l.length) : (intsC l)[j]? = some (.int .i64 (l.getD j 0 : Nat)) := by simp [intsC, h, List.getD]

end Go.Proofs.YtjbfooaembpdfaaGreatDoor.D5

/-
  The small functions of package fate: isSet, sizeFor, blank, over this seat's translation; conditions: the table of masks reads as the program lays it, the numbers fit their kinds, the slices read as lists.
-/
namespace Go.Proofs.YtjbfooaembpdfaaGreatDoor.D5
open Go.RowKit

/-- The table of masks, as the program lays it. -/
def Masks (w : World) : Prop := ∀ k : Nat, k < 8 → w.cell? ⟨0, k, none⟩ = some (.int .u8 ((2 ^ k : Nat) : Int))
theorem Masks.keep0 {w w' : World} (h : Masks w) (g : w.grownBy w' none) : Masks w' := fun k hk => g.cell (h k hk) (by simp)
theorem bits_and : ∀ c : Fin 256, ∀ r : Fin 8, (bits BinOp.and IntKind.u8 (c.val : Int) (2 ^ r.val) != 0) = decide (c.val / 2 ^ r.val % 2 = 1) := by decide +kernel
theorem sizeFor_any (n : Nat) (w : World) (h : n ≤ 9223372036854775000) :
    Calls Tryz.prog 75 #[.int .i64 (n : Nat)] w fun e w' => e = .returned (.int .i64 ((n + 7) / 8 : Nat)) ∧ w = w' := by
  go_enter Tryz.func75, Tryz.ntmps75
  go_wp2
  go_ret
  exact ⟨ret_i64 (by omega), rfl⟩

theorem isSet_any (vc : Value) (cs : List UInt8) (i : Nat) (w : World) (hm : Masks w) (hv : Bts w vc cs) (hi : i ≤ 9223372036854775807) :
    Calls Tryz.prog 74 #[vc, .int .i64 (i : Nat)] w fun e w' => e = .returned (.bool (wentB cs i)) ∧ w.grownBy w' none := by
  obtain ⟨ao, ca, rfl, hca, _, hna, hxa⟩ := hv
  have HA := Lib.hid hxa
  have HN := Lib.hid hna
  clear hxa hna
  obtain ⟨q, hq⟩ : ∃ q, i / 8 = q := ⟨_, rfl⟩
  obtain ⟨r, hr⟩ : ∃ r, i % 8 = r := ⟨_, rfl⟩
  have ht : IntKind.i64.wrap ((i : Int) / 8) = (q : Int) := by
    rw [show (i : Int) / 8 = (q : Int) by omega]
    exact IntWalk.i64_in _ (by omega)
  have ht2 : IntKind.i64.wrap ((i : Int) % 8) = (r : Int) := by
    rw [show (i : Int) % 8 = (r : Int) by omega]
    exact IntWalk.i64_in _ (by omega)
  have ht3 : (i : Int).tmod 8 = (r : Int) := by
    rw [Int.tmod_eq_emod_of_nonneg (by omega)]; omega
  have hr8 : r < 8 := by omega
  have d1 := hm r hr8
  have hr8' : (r : Int) < 8 := by omega
  have hr0 : (0 : Int) ≤ (r : Int) := by omega
  have hq0 : (0 : Int) ≤ (q : Int) := by omega
  clear hm
  by_cases hin : q < cs.length
  · cases ao with
    | none => have := (HN.out rfl).1; omega
    | some x =>
      have d0 := HA.out x rfl q _ (bytes_at hin)
      have hw : wentB cs i = decide ((cs.getD q 0).toNat / 2 ^ r % 2 = 1) := by
        unfold wentB; rw [hq, hr]; simp [hin]
      generalize hcb : cs.getD q 0 = c at d0 hw
      have hin2 : (q : Int) < (cs.length : Int) := by omega
      have hin3 : decide ((q : Int) < (cs.length : Int)) = true := by simpa using hin2
      have HW := Lib.hid hw
      clear hw hcb hq hr
      go_enter Tryz.func74, Tryz.ntmps74
      go_wp2
      go_quiet (fail)
      go_wp2
      go_ret
      exact ⟨by rw [HW.out, ← bits_and ⟨c.toNat, c.toNat_lt⟩ ⟨r, hr8⟩]; rfl, gb_drewN _ _ _⟩
  · have hin3 : decide ((q : Int) < (cs.length : Int)) = false := by simp; omega
    have hw : wentB cs i = false := by unfold wentB; rw [hq]; simp [hin]
    have HW := Lib.hid hw
    clear hw hq hr
    go_enter Tryz.func74, Tryz.ntmps74
    go_wp2
    go_quiet (fail)
    go_wp2
    go_ret
    exact ⟨by rw [HW.out]; rfl, gb_drewN _ _ _⟩
theorem made_one (v : Value) (n : Nat) (h : v.cells = #[v]) : madeCells v.cells n = (List.replicate n v).toArray := by
  rw [h]; apply Array.toList_inj.1; rw [toList_madeCells_one]
theorem bools_false (n : Nat) : bools (List.replicate n false) = List.replicate n (Value.bool false) := by simp [bools]
theorem make_bools (n : Nat) (z : Int) (w : World) (hz : z = (n : Int)) (hn : n ≤ 100000) : (Instr.makeSlice 95 (.int .i64 z) (.int .i64 z)).run Tryz.prog w = .ok (.slice (some ⟨w.heap.size, 0, none⟩) n n) (w.alloc (.cells (bools (List.replicate n false)).toArray 4)) := by
  obtain ⟨i0, hi, hz0, hz1, hz2⟩ := info_parts Tryz.infoBool
  subst hz
  have h := run_make (P := Tryz.prog) w 95 4 i0 (.bool false) Tryz.underlying95 hi hz0 .i64 .i64 (n : Int) (n : Int) (by omega) (by omega) (by rw [hz2]; omega) (by omega)
  rw [hz1, Nat.mul_one, Int.toNat_natCast, made_one _ _ rfl, ← bools_false] at h
  exact h
theorem Tryz.infoByte : (Tryz.prog.info? 5).map (fun i => (i.zero, i.size, i.bytes)) = some (some (.int .u8 0), 1, 1) := by kernel_rfl
theorem bytes_zero (n : Nat) : bytesC (List.replicate n 0) = List.replicate n (Value.int .u8 0) := by simp [bytesC]
theorem make_bytes (n : Nat) (z : Int) (w : World) (hz : z = (n : Int)) (hn : n ≤ 100000) : (Instr.makeSlice 24 (.int .i64 z) (.int .i64 z)).run Tryz.prog w = .ok (.slice (some ⟨w.heap.size, 0, none⟩) n n) (w.alloc (.cells (bytesC (List.replicate n 0)).toArray 5)) := by
  obtain ⟨i0, hi, hz0, hz1, hz2⟩ := info_parts Tryz.infoByte
  subst hz
  have h := run_make (P := Tryz.prog) w 24 5 i0 (.int .u8 0) Tryz.underlying24 hi hz0 .i64 .i64 (n : Int) (n : Int) (by omega) (by omega) (by rw [hz2]; omega) (by omega)
  rw [hz1, Nat.mul_one, Int.toNat_natCast, made_one _ _ rfl, ← bytes_zero] at h
  exact h
/-- A fate by which no write came, new, its list its own block. -/
def BlankGot (w : World) (N : Nat) (e : Ending) (w' : World) : Prop :=
  ∃ b, e = .returned (.agg #[.slice (some ⟨b, 0, none⟩) N N, .int .i64 (-1), .int .i64 0]) ∧ w.heap.size ≤ b ∧ Blk w' b 4 (bools (List.replicate N false)).toArray ∧ w.grownBy w' none
theorem blank_end (w : World) (m : Nat) {tmps : Array Value} (h : tmps[2]? = some (.pointer (some ⟨w.heap.size, 0, none⟩))) :
    bodyPost Tryz.prog Tryz.f73 (BlankGot w m) Exit.ret { tmps := tmps, defers := [] }
      ((w.alloc (.cells #[.slice (some ⟨w.heap.size + 1, 0, none⟩) m m, .int .i64 (-1), .int .i64 0] 97)).alloc (.cells (bools (List.replicate m false)).toArray 4)) := by
  have b0 := (Blk.mk w 97 #[.slice (some ⟨w.heap.size + 1, 0, none⟩) m m, .int .i64 (-1), .int .i64 0]).keep0 (gb_alloc _ (.cells (bools (List.replicate m false)).toArray 4) none)
  have b1 := Blk.mk (w.alloc (.cells #[.slice (some ⟨w.heap.size + 1, 0, none⟩) m m, .int .i64 (-1), .int .i64 0] 97)) 4 (bools (List.replicate m false)).toArray
  rw [World.size_alloc] at b1
  have r0 := b0.cell 0 rfl
  have r1 := b0.cell 1 rfl
  have r2 := b0.cell 2 rfl
  refine bodyPost_ret (v := .agg #[.slice (some ⟨w.heap.size + 1, 0, none⟩) m m, .int .i64 (-1), .int .i64 0]) ?_ rfl ⟨_, rfl, by omega, b1, gb_trans (gb_alloc _ _ _) (gb_alloc _ _ _)⟩
  clear b0 b1
  simp [results, Tryz.results73, go_sem, r0, r1, r2, h]
set_option maxRecDepth 100000 in
theorem blank_any (n : Int) (w : World) (h1 : -9223372036854775808 ≤ n) (h2 : n ≤ 9223372036854775807) :
    Calls Tryz.prog 73 #[.int .i64 n] w (BlankGot w (manyN n)) := by
  obtain ⟨m, hm⟩ : ∃ m, manyN n = m := ⟨_, rfl⟩
  have hN := manyN_le n
  rw [hm] at hN ⊢
  have key : ∀ z : Int, z = (m : Int) → ∀ W, (Instr.makeSlice 95 (.int .i64 z) (.int .i64 z)).run Tryz.prog W = .ok (.slice (some ⟨W.heap.size, 0, none⟩) m m) (W.alloc (.cells (bools (List.replicate m false)).toArray 4)) := fun z hz W => make_bools m z W hz (by omega)
  rcases Int.lt_or_le n 0 with h | h
  · have k0 := key 0 (by unfold manyN at hm; omega)
    clear key
    go_enter Tryz.func73, Tryz.ntmps73
    go_wp2
    exact blank_end w m rfl
  · rcases Int.lt_or_le 4096 n with h3 | h3
    · have k0 := key 4096 (by unfold manyN at hm; omega)
      clear key
      go_enter Tryz.func73, Tryz.ntmps73
      go_wp2
      exact blank_end w m rfl
    · have k0 := key n (by unfold manyN at hm; omega)
      clear key
      by_cases h0 : n = 0
      · subst h0
        go_enter Tryz.func73, Tryz.ntmps73
        go_wp2
        exact blank_end w m rfl
      · have h4 : 0 < n := by omega
        go_enter Tryz.func73, Tryz.ntmps73
        go_wp2
        exact blank_end w m rfl
end Go.Proofs.YtjbfooaembpdfaaGreatDoor.D5
