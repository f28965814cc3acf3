/-
  The statements' own sectors (foyerlaw05.sector), and new disks (disk.New, foyerref05.New), over this seat's translation; no conditions beside those that each law states.
-/
import Derived.Test.YtliiooldlooagaaGreatDoorZD5
import Derived.Test.YtliiooldlooagaaGreatDoorZROOT9
set_option linter.unusedSimpArgs false
set_option linter.unusedVariables false
namespace Go.Proofs.YtliiooldlooagaaGreatDoor.D5
open Go.RowKit Go.Maps

def s5L (c : UInt8) (n : Nat) : List UInt8 := (List.range n).map fun i => c + UInt8.ofNat (i / 64)
theorem s5L_length (c : UInt8) (n : Nat) : (s5L c n).length = n := by simp [s5L]
theorem s5L_snoc (c : UInt8) (n : Nat) : s5L c (n + 1) = s5L c n ++ [c + UInt8.ofNat (n / 64)] := by simp [s5L, List.range_succ]
def fill5 (c : UInt8) (k : Nat) : List UInt8 := s5L c k ++ rep (256 - k) 0
theorem fill5_length (c : UInt8) (k : Nat) (h : k ≤ 256) : (fill5 c k).length = 256 := by unfold fill5; rw [List.length_append, s5L_length, rep_length]; omega
theorem fill5_set (c : UInt8) (k : Nat) (h : k < 256) : (fill5 c k).set k (c + UInt8.ofNat (k / 64)) = fill5 c (k + 1) := by
  unfold fill5
  rw [show 256 - k = (256 - (k + 1)) + 1 by omega, rep_succ, List.set_append_right _ _ (by rw [s5L_length]; omega), s5L_length, Nat.sub_self, List.set_cons_zero, s5L_snoc, List.append_assoc]
  rfl
def s5W (c : UInt8) : ByteArray := ⟨(s5L c 256).toArray⟩
def s5 (c : UInt8) : ByteArray := if 240 < c.toNat ∧ c.toNat % 2 = 1 then ⟨(s5L c 255).toArray⟩ else s5W c
theorem fill5_all (c : UInt8) : fill5 c 256 = s5L c 256 := by unfold fill5; rw [Nat.sub_self]; exact List.append_nil _
theorem s5_step (c : UInt8) (k : Nat) (h : k < 256) : ((c + UInt8.ofNat (k / 64)).toNat : Int) = (((c.toNat + k / 64) % 256 : Nat) : Int) := by
  rw [UInt8.toNat_add, UInt8.toNat_ofNat']
  congr 1
  have : k / 64 < 256 := by omega
  rw [Nat.mod_eq_of_lt (by omega : k / 64 < 2 ^ 8)]
theorem s5_size (c : UInt8) : (s5 c).size = if 240 < c.toNat ∧ c.toNat % 2 = 1 then 255 else 256 := by
  unfold s5
  split
  · show ((s5L c 255).toArray).size = 255
    rw [List.size_toArray, s5L_length]
  · show ((s5L c 256).toArray).size = 256
    rw [List.size_toArray, s5L_length]

/-- A new disk. -/
def noB : ByteArray := ⟨(rep 256 0).toArray⟩
theorem noB_size : noB.size = 256 := by
  show ((rep 256 0).toArray).size = 256
  rw [List.size_toArray, rep_length]
def newS (n : Nat) : St := ⟨List.replicate n noB, [], false, false, 0, 0⟩
theorem newS_ok (n : Nat) (h : n ≤ 1024) : (newS n).Ok 0 :=
  ⟨by simp [newS]; omega, fun s hs => by rw [List.eq_of_mem_replicate hs]; exact noB_size, (fun x hx => by cases hx), Nat.le_refl _, Int.le_refl _, Int.le_refl _, (fun e => by cases e), fun _ => rfl⟩
def newF (w w' : World) (k : Nat) : Prop := w.heap.size ≤ k ∧ k < w'.heap.size
def filN (n k : Nat) : List ByteArray := List.replicate k noB ++ List.replicate (n - k) noS
theorem filN_length (n k : Nat) (h : k ≤ n) : (filN n k).length = n := by simp [filN]; omega
theorem filN_set (n k : Nat) (h : k < n) : (filN n k).set k noB = filN n (k + 1) := by
  unfold filN
  rw [show n - k = (n - (k + 1)) + 1 by omega, List.replicate_succ, List.set_append_right _ _ (by simp), List.length_replicate, Nat.sub_self, List.set_cons_zero, List.replicate_succ', List.append_assoc]
  rfl
theorem filN_all (n : Nat) : filN n n = List.replicate n noB := by simp [filN]
theorem repeat_no : (⟨(Lib.repeatL [0] 256).toArray⟩ : ByteArray) = noB := by decide +kernel
set_option maxRecDepth 100000 in
set_option maxHeartbeats 1000000 in
theorem dnew_no (n : Int) (w : World) (h : n < 64 ∨ 1024 < n) : Calls Tryz.prog 23 #[.int .i64 n] w fun e w' => e = .returned (.pointer none) ∧ w.grownBy w' none := by
  rcases Int.lt_or_le n 64 with h1 | h1
  · have hd1 : decide (n < 64) = true := decide_eq_true h1
    go_enter Tryz.func23, Tryz.ntmps23
    go_wp2
    go_ret
    exact ⟨rfl, gb_refl _ _⟩
  · have h2 : 1024 < n := by omega
    have hd1 : decide (n < 64) = false := decide_eq_false (by omega)
    have hd2 : decide (1024 < n) = true := decide_eq_true h2
    go_enter Tryz.func23, Tryz.ntmps23
    go_wp2
    go_ret
    exact ⟨rfl, gb_refl _ _⟩
set_option maxRecDepth 100000 in
set_option maxHeartbeats 2000000 in
theorem dnew_any (n : Nat) (w : World) (h1 : 64 ≤ n) (h2 : n ≤ 1024) : Calls Tryz.prog 23 #[.int .i64 (n : Nat)] w fun e w' => ∃ p, e = .returned (.pointer (some ⟨p, 0, none⟩)) ∧ PD w' w.heap.size (newF w w') p (newS n) ∧ w.grownBy w' none := by
  have hd1 : decide ((n : Int) < 64) = false := decide_eq_false (by omega)
  have hd2 : decide (1024 < (n : Int)) = false := decide_eq_false (by omega)
  have mk := make_strs n (n : Nat) w rfl (by omega)
  have hmm := @run_makeMap Tryz.prog
  have hrep : ∀ W, Calls Tryz.prog 17 #[.string ⟨#[0]⟩, .int .i64 256] W fun e w' => e = .returned (.string noB) ∧ Below W.heap.size W w' := fun W =>
    (Tryz.strings_Repeat ⟨#[0]⟩ 256 W (by omega) (by decide)).mono fun e w' h => ⟨h.1.trans (congrArg (fun z => Ending.returned (Value.string z)) repeat_no), h.2⟩
  have HRep := Lib.hid hrep
  clear hrep
  have hP0 : PDv (((w.alloc (.cells (strsC (List.replicate n noS)).toArray 9)).alloc (.map #[] 0)).alloc (.cells (dkC (.slice (some ⟨w.heap.size, 0, none⟩) n n) (.slice none 0 0) (w.heap.size + 1) ⟨filN n 0, [], false, false, 0, 0⟩) 114)) w.heap.size (w.heap.size + 1 + 1) (.slice (some ⟨w.heap.size, 0, none⟩) n n) (.slice none 0 0) (w.heap.size + 1) (.map []) ⟨filN n 0, [], false, false, 0, 0⟩ := by
    have gA := gb_alloc (w.alloc (.cells (strsC (List.replicate n noS)).toArray 9)) (.map #[] 0) none
    have gB := gb_alloc ((w.alloc (.cells (strsC (List.replicate n noS)).toArray 9)).alloc (.map #[] 0)) (.cells (dkC (.slice (some ⟨w.heap.size, 0, none⟩) n n) (.slice none 0 0) (w.heap.size + 1) ⟨filN n 0, [], false, false, 0, 0⟩) 114) none
    refine ⟨?_, ?_, World.ownsRow_nil _ _ _ _, ?_, mapIs_nil, by omega, by omega⟩
    · have := Blk.mk ((w.alloc (.cells (strsC (List.replicate n noS)).toArray 9)).alloc (.map #[] 0)) 114 (dkC (.slice (some ⟨w.heap.size, 0, none⟩) n n) (.slice none 0 0) (w.heap.size + 1) ⟨filN n 0, [], false, false, 0, 0⟩)
      simp only [World.size_alloc] at this
      exact this
    · have hl : (filN n 0).length = n := filN_length n 0 (by omega)
      have hb := ((Blk.mk w 9 (strsC (List.replicate n noS)).toArray).keep0 gA).keep0 gB
      show World.ownsRow _ _ _ 1 _ (filN n 0).length (strsC (filN n 0))
      rw [hl]
      have e : (strsC (filN n 0)).toArray = (strsC (List.replicate n noS)).toArray := by simp [filN]
      exact owns_of_blk (l := filN n 0) (hb.trans (congrArg (fun z => some (Obj.cells z 9 (0, 0))) e.symm)) (Nat.le_refl _) hl (by omega)
    · have hm := World.ownsMap_made (w.alloc (.cells (strsC (List.replicate n noS)).toArray 9)) Tryz.prog 3 (plainElem (H := Unit) Tryz.prog 3)
      rw [World.size_alloc] at hm
      exact hm.kept gB (by simp)
  have hg0 : w.grownBy (((w.alloc (.cells (strsC (List.replicate n noS)).toArray 9)).alloc (.map #[] 0)).alloc (.cells (dkC (.slice (some ⟨w.heap.size, 0, none⟩) n n) (.slice none 0 0) (w.heap.size + 1) ⟨filN n 0, [], false, false, 0, 0⟩) 114)) none := gb_trans (gb_trans (gb_alloc _ _ _) (gb_alloc _ _ _)) (gb_alloc _ _ _)
  have HP0 := Lib.hid (And.intro hP0 hg0)
  clear hP0 hg0
  go_enter Tryz.func23, Tryz.ntmps23
  go_wp2_with (go_at_call 17; (refine (HRep.out _).mono ?_); rintro e w4 ⟨rfl, hb4⟩; have g4 := gb_of_below hb4; have hP4 := PDv.keep0 HP0.out.1 g4; have hg4 := gb_trans HP0.out.2 g4; obtain ⟨c0, _, _, _, _, _, _⟩ := dk_cells hP4.1; clear hb4)
  have HP4 := Lib.hid (And.intro hP4 hg4)
  clear hP4 hg4 c0 g4 mk hmm
  go_loopw [5, 23] (fun _ v wr => ∃ k : Nat, k ≤ n ∧ v = .int .i64 k ∧ PDv wr w.heap.size (w.heap.size + 1 + 1) (.slice (some ⟨w.heap.size, 0, none⟩) n n) (.slice none 0 0) (w.heap.size + 1) (.map []) ⟨filN n k, [], false, false, 0, 0⟩ ∧ w.grownBy wr none) (fun _ v _ => n - (intOf v).toNat)
  case atStart => exact ⟨0, by omega, rfl, HP4.out.1, HP4.out.2⟩
  case round =>
    obtain ⟨k, hk, rfl, hP, hg⟩ := hrel
    obtain ⟨c0, _, _, _, _, _, _⟩ := dk_cells hP.1
    by_cases hlt : k < n
    · have hll := filN_length n k hk
      have hrow : wr.ownsRow w.heap.size 9 1 (.slice (some ⟨w.heap.size, 0, none⟩) n n) n (strsC (filN n k)) := by
        have := hP.2.1; rw [show (St.mk (filN n k) [] false false 0 0).secs.length = n from hll] at this; exact this
      have s0 : wr.cell? ⟨w.heap.size, k, none⟩ = some (.string ((filN n k).getD k noS)) := by rw [hrow.cellAt k (by omega)]; exact strs_at (by omega)
      have s1 := hrow.frozenAt k
      have hnew := pdv_lay (d := noB) hP (show n = (St.mk (filN n k) [] false false 0 0).secs.length from hll.symm) (m := k) hlt
      have hset := filN_set n k hlt
      rw [show ({ (St.mk (filN n k) [] false false 0 0) with secs := (St.mk (filN n k) [] false false 0 0).secs.set k noB } : St) = ⟨filN n (k + 1), [], false, false, 0, 0⟩ by show St.mk ((filN n k).set k noB) [] false false 0 0 = _; rw [hset]] at hnew
      have hgn := gb_step hg (gb_set wr w.heap.size k none (.string noB)) (Nat.le_refl _)
      have HN := Lib.hid (And.intro hnew hgn)
      generalize (filN n k).getD k noS = y at s0
      have hk0 : (0 : Int) ≤ (k : Int) := by omega
      have hk1 : (k : Int) < (n : Int) := by omega
      clear hnew hset hgn hP hrow hll
      go_wp2
      go_roundw
      case rel => exact ⟨k + 1, by omega, by go_num, HN.out.1, HN.out.2⟩
      case measure => simp [intOf]; omega
    · obtain rfl : k = n := by omega
      rw [filN_all] at hP
      have hlt' : ¬ ((k : Int) < (k : Int)) := by omega
      go_wp2
      go_ret
      refine ⟨w.heap.size + 1 + 1, rfl, ⟨_, _, _, _, hP, fun j hj => ?_⟩, hg⟩
      have h1 := hP.1.lt
      have h2 := hP.2.2.2.1.lt
      rcases hj with rfl | rfl | hj | hj
      · exact ⟨by omega, h1⟩
      · exact ⟨by omega, h2⟩
      · exact hP.2.1.lt j hj
      · cases hj
theorem wp_append_run {P : Program} {w w' : World} {o : Oper} {a : Act} {K : Act → World → Prop} {Q : Exit → Act → World → Prop} (s x : Operand) (t : TypeId)
    (ho : o.op = .call { callee := .builtin .append, args := #[s, x], argTypes := #[t, t] }) (u1 u2 : Value) (hs : a.eval s = u1) (hx : a.eval x = u2) (v' : Value) (ty : TypeId)
    (hrun : (Builtin.append_ #[t, t] ty #[u1, u2]).run P w = .ok v' w') (hty : o.type = ty) (h : K (a.put o.dst v') w') : o.wp P a w K Q := by
  subst hty
  unfold Oper.wp
  simp [execOp, ho, resolve, invoke, builtin, hs, hx, hrun, Result.andThen]
  exact h
end Go.Proofs.YtliiooldlooagaaGreatDoor.D5
