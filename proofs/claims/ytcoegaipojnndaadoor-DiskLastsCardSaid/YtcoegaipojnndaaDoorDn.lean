/-
  The statements' own sectors (foyerlaw05.sector), and new disks (disk.New, foyerref05.New), over this seat's translation; no conditions beside those that each law states.
-/
import Derived.Test.YtcoegaipojnndaaDoorDr4
import Derived.Test.YtcoegaipojnndaaDoorVRep
namespace Go.Proofs.YtcoegaipojnndaaDoor
open Go.RowKit Go.Maps

def s5L (c : UInt8) (n : Nat) : List UInt8 := (List.range n).map fun i => c + UInt8.ofNat (i / 64)
theorem s5L_length (c : UInt8) (n : Nat) : (s5L c n).length = n := by simp [s5L]
theorem s5L_snoc (c : UInt8) (n : Nat) : s5L c (n + 1) = s5L c n ++ [c + UInt8.ofNat (n / 64)] := by simp [s5L, List.range_succ]
def fill5 (c : UInt8) (k : Nat) : List UInt8 := s5L c k ++ rep (256 - k) 0
theorem fill5_length (c : UInt8) (k : Nat) (h : k ≤ 256) : (fill5 c k).length = 256 := by unfold fill5; rw [List.length_append, s5L_length, rep_length]; omega
theorem fill5_set (c : UInt8) (k : Nat) (h : k < 256) : (fill5 c k).set k (c + UInt8.ofNat (k / 64)) = fill5 c (k + 1) := by
  unfold fill5
  rw [show 256 - k = (256 - (k + 1)) + 1 by omega, rep_succ, List.set_append_right _ _ (by rw [s5L_length]; omega), s5L_length, Nat.sub_self, List.set_cons_zero, s5L_snoc, List.append_assoc]
  rfl
def s5W (c : UInt8) : ByteArray := ⟨(s5L c 256).toArray⟩
def s5 (c : UInt8) : ByteArray := if 240 < c.toNat ∧ c.toNat % 2 = 1 then ⟨(s5L c 255).toArray⟩ else s5W c
theorem fill5_all (c : UInt8) : fill5 c 256 = s5L c 256 := by unfold fill5; rw [Nat.sub_self]; exact List.append_nil _
theorem s5_step (c : UInt8) (k : Nat) (h : k < 256) : ((c + UInt8.ofNat (k / 64)).toNat : Int) = (((c.toNat + k / 64) % 256 : Nat) : Int) := by
  rw [UInt8.toNat_add, UInt8.toNat_ofNat']
  congr 1
  have : k / 64 < 256 := by omega
  rw [Nat.mod_eq_of_lt (by omega : k / 64 < 2 ^ 8)]
set_option maxRecDepth 100000 in
set_option maxHeartbeats 1000000 in
theorem sector5_any (z : Int) (c : UInt8) (w : World) (hz : z = (c.toNat : Nat)) : Calls Tryd.prog 19 #[.int .u8 z] w fun e w' => e = .returned (.string (s5 c)) ∧ w.grownBy w' none := by
  subst hz
  have mk := make_sector w
  go_enter Tryd.func19, Tryd.ntmps19
  go_wp2_with fail
  have k0 : Blk (w.alloc (.cells (bytesC (rep 256 0)).toArray 5)) w.heap.size 5 (bytesC (fill5 c 0)).toArray := Blk.mk w 5 (bytesC (rep 256 0)).toArray
  have g0 := gb_alloc w (.cells (bytesC (rep 256 0)).toArray 5) none
  generalize w.alloc (.cells (bytesC (rep 256 0)).toArray 5) = W0 at k0 g0 ⊢
  clear mk
  go_loopw [4] (fun v wr => ∃ k : Nat, k ≤ 256 ∧ v = .int .i64 k ∧ Blk wr w.heap.size 5 (bytesC (fill5 c k)).toArray ∧ w.grownBy wr none) (fun v _ => 256 - (intOf v).toNat)
  case atStart => exact ⟨0, by omega, rfl, k0, g0⟩
  case round =>
    clear k0 g0
    obtain ⟨k, hk, rfl, kb, hg⟩ := hrel
    by_cases hlt : k < 256
    · have d0 := kb.cell k (v := .int .u8 (((fill5 c k).getD k 0).toNat : Nat)) (by rw [List.getElem?_toArray]; exact bytes_at (by rw [fill5_length c k (by omega)]; omega))
      have e0 := kb.free k
      have hk0 : (0 : Int) ≤ (k : Int) := by omega
      have hz : ((c.toNat : Int) + (k : Int) / 64) % 256 = (((c + UInt8.ofNat (k / 64)).toNat : Nat) : Int) := by rw [s5_step c k hlt]; omega
      have hnew : Blk (wr.setCell ⟨w.heap.size, k, none⟩ (.int .u8 (((c.toNat : Int) + (k : Int) / 64) % 256))) w.heap.size 5 (bytesC (fill5 c (k + 1))).toArray := by
        rw [← fill5_set c k hlt, hz]
        have := bytes_set (fill5 c k) k (c + UInt8.ofNat (k / 64)).toNat (UInt8.toNat_lt _)
        rw [u8_back] at this
        rw [← this]
        exact kb.set k _
      have HNw := Lib.hid hnew
      clear hnew hz
      generalize ((fill5 c k).getD k 0) = y at d0
      go_wp2
      go_roundw
      case rel => exact ⟨k + 1, by omega, by go_num, HNw.out, gb_step hg (gb_set _ _ _ _ _) (by omega)⟩
      case measure => simp [intOf]; omega
    · obtain rfl : k = 256 := by omega
      have hat : ∀ j, j < 256 → wr.cell? ⟨w.heap.size, j, none⟩ = some (.int .u8 (((s5L c 256).getD j 0).toNat : Nat)) := by
        intro j hj
        refine kb.cell j ?_
        rw [fill5_all, List.getElem?_toArray, bytes_at (by rw [s5L_length]; exact hj)]
      have hcv : (convert 29 9 (.slice (some ⟨w.heap.size, 0, none⟩) 256 256)).run Tryd.prog wr = .ok (.string (s5W c)) wr := by
        have h := run_convert_bytes_back wr 29 9 5 ⟨w.heap.size, 0, none⟩ 256 (s5L c 256) Tryd.underlying29 Tryd.underlying5 Tryd.underlying9 (fun j hj => by
          rw [add_lit, hat j (by rw [s5L_length] at hj; exact hj)]
          rw [show (s5L c 256).getD j 0 = (s5L c 256)[j] by rw [List.getD, List.getElem?_eq_getElem hj]; rfl])
        rw [s5L_length] at h
        exact h
      have hcv2 : (convert 29 9 (.slice (some ⟨w.heap.size, 0, none⟩) 255 256)).run Tryd.prog wr = .ok (.string ⟨(s5L c 255).toArray⟩) wr := by
        have h := run_convert_bytes_back wr 29 9 5 ⟨w.heap.size, 0, none⟩ 256 (s5L c 255) Tryd.underlying29 Tryd.underlying5 Tryd.underlying9 (fun j hj => by
          have hj' : j < 255 := by rw [s5L_length] at hj; exact hj
          rw [add_lit, hat j (by omega)]
          have e1 : (s5L c 256).getD j 0 = c + UInt8.ofNat (j / 64) := by simp [s5L, List.getD, show j < 256 by omega]
          rw [e1]
          simp [s5L])
        rw [s5L_length] at h
        exact h
      clear hat kb
      by_cases h1 : 240 < c.toNat
      · have hd1 : decide ((240 : Int) < (c.toNat : Int)) = true := decide_eq_true (by omega)
        by_cases h2 : c.toNat % 2 = 1
        · have hs : s5 c = ⟨(s5L c 255).toArray⟩ := by unfold s5; rw [if_pos ⟨h1, h2⟩]
          have hd2 : ((c.toNat : Int) % 2 == 1) = true := by simp; omega
          have HS := Lib.hid hs
          clear hs h1 h2
          go_wp2
          go_ret
          exact ⟨congrArg (fun z => Ending.returned (Value.string z)) HS.out.symm, hg⟩
        · have hs : s5 c = s5W c := by unfold s5; rw [if_neg (fun h => h2 h.2)]
          have hd2 : ((c.toNat : Int) % 2 == 1) = false := by simp; omega
          have HS := Lib.hid hs
          clear hs h1 h2
          go_wp2
          go_ret
          exact ⟨congrArg (fun z => Ending.returned (Value.string z)) HS.out.symm, hg⟩
      · have hd1 : decide ((240 : Int) < (c.toNat : Int)) = false := decide_eq_false (by omega)
        have hs : s5 c = s5W c := by unfold s5; rw [if_neg (fun h => h1 h.1)]
        have HS := Lib.hid hs
        clear hs h1
        go_wp2
        go_ret
        exact ⟨congrArg (fun z => Ending.returned (Value.string z)) HS.out.symm, hg⟩
theorem s5_size (c : UInt8) : (s5 c).size = if 240 < c.toNat ∧ c.toNat % 2 = 1 then 255 else 256 := by
  unfold s5
  split
  · show ((s5L c 255).toArray).size = 255
    rw [List.size_toArray, s5L_length]
  · show ((s5L c 256).toArray).size = 256
    rw [List.size_toArray, s5L_length]

/-- A new disk. -/
def noB : ByteArray := ⟨(rep 256 0).toArray⟩
theorem noB_size : noB.size = 256 := by
  show ((rep 256 0).toArray).size = 256
  rw [List.size_toArray, rep_length]
def newS (n : Nat) : St := ⟨List.replicate n noB, [], false, false, 0, 0⟩
theorem newS_ok (n : Nat) (h : n ≤ 1024) : (newS n).Ok 0 :=
  ⟨by simp [newS]; omega, fun s hs => by rw [List.eq_of_mem_replicate hs]; exact noB_size, (fun x hx => by cases hx), Nat.le_refl _, Int.le_refl _, Int.le_refl _, (fun e => by cases e), fun _ => rfl⟩
def newF (w w' : World) (k : Nat) : Prop := w.heap.size ≤ k ∧ k < w'.heap.size
def filN (n k : Nat) : List ByteArray := List.replicate k noB ++ List.replicate (n - k) noS
theorem filN_length (n k : Nat) (h : k ≤ n) : (filN n k).length = n := by simp [filN]; omega
theorem filN_set (n k : Nat) (h : k < n) : (filN n k).set k noB = filN n (k + 1) := by
  unfold filN
  rw [show n - k = (n - (k + 1)) + 1 by omega, List.replicate_succ, List.set_append_right _ _ (by simp), List.length_replicate, Nat.sub_self, List.set_cons_zero, List.replicate_succ', List.append_assoc]
  rfl
theorem filN_all (n : Nat) : filN n n = List.replicate n noB := by simp [filN]
theorem repeat_no : (⟨(Lib.repeatL [0] 256).toArray⟩ : ByteArray) = noB := by decide +kernel
set_option maxRecDepth 100000 in
set_option maxHeartbeats 1000000 in
theorem dnew_no (n : Int) (w : World) (h : n < 64 ∨ 1024 < n) : Calls Tryd.prog 13 #[.int .i64 n] w fun e w' => e = .returned (.pointer none) ∧ w.grownBy w' none := by
  rcases Int.lt_or_le n 64 with h1 | h1
  · have hd1 : decide (n < 64) = true := decide_eq_true h1
    go_enter Tryd.func13, Tryd.ntmps13
    go_wp2
    go_ret
    exact ⟨rfl, gb_refl _ _⟩
  · have h2 : 1024 < n := by omega
    have hd1 : decide (n < 64) = false := decide_eq_false (by omega)
    have hd2 : decide (1024 < n) = true := decide_eq_true h2
    go_enter Tryd.func13, Tryd.ntmps13
    go_wp2
    go_ret
    exact ⟨rfl, gb_refl _ _⟩
set_option maxRecDepth 100000 in
set_option maxHeartbeats 1000000 in
theorem rnew_no (n : Int) (w : World) (h : n < 64 ∨ 1024 < n) : Calls Tryd.prog 14 #[.int .i64 n] w fun e w' => e = .returned (.pointer none) ∧ w.grownBy w' none := by
  rcases Int.lt_or_le n 64 with h1 | h1
  · have hd1 : decide (n < 64) = true := decide_eq_true h1
    go_enter Tryd.func14, Tryd.ntmps14
    go_wp2
    go_ret
    exact ⟨rfl, gb_refl _ _⟩
  · have h2 : 1024 < n := by omega
    have hd1 : decide (n < 64) = false := decide_eq_false (by omega)
    have hd2 : decide (1024 < n) = true := decide_eq_true h2
    go_enter Tryd.func14, Tryd.ntmps14
    go_wp2
    go_ret
    exact ⟨rfl, gb_refl _ _⟩
set_option maxRecDepth 100000 in
set_option maxHeartbeats 2000000 in
theorem dnew_any (n : Nat) (w : World) (h1 : 64 ≤ n) (h2 : n ≤ 1024) : Calls Tryd.prog 13 #[.int .i64 (n : Nat)] w fun e w' => ∃ p, e = .returned (.pointer (some ⟨p, 0, none⟩)) ∧ PD w' w.heap.size (newF w w') p (newS n) ∧ w.grownBy w' none := by
  have hd1 : decide ((n : Int) < 64) = false := decide_eq_false (by omega)
  have hd2 : decide (1024 < (n : Int)) = false := decide_eq_false (by omega)
  have mk := make_strs n (n : Nat) w rfl (by omega)
  have hmm := @run_makeMap Tryd.prog
  have hrep : ∀ W, Calls Tryd.prog 41 #[.string ⟨#[0]⟩, .int .i64 256] W fun e w' => e = .returned (.string noB) ∧ Below W.heap.size W w' := fun W =>
    (Tryd.strings_Repeat ⟨#[0]⟩ 256 W (by omega) (by decide)).mono fun e w' h => ⟨h.1.trans (congrArg (fun z => Ending.returned (Value.string z)) repeat_no), h.2⟩
  have HRep := Lib.hid hrep
  clear hrep
  have hP0 : PDv (((w.alloc (.cells (strsC (List.replicate n noS)).toArray 9)).alloc (.map #[] 0)).alloc (.cells (dkC (.slice (some ⟨w.heap.size, 0, none⟩) n n) (.slice none 0 0) (w.heap.size + 1) ⟨filN n 0, [], false, false, 0, 0⟩) 80)) w.heap.size (w.heap.size + 1 + 1) (.slice (some ⟨w.heap.size, 0, none⟩) n n) (.slice none 0 0) (w.heap.size + 1) (.map []) ⟨filN n 0, [], false, false, 0, 0⟩ := by
    have gA := gb_alloc (w.alloc (.cells (strsC (List.replicate n noS)).toArray 9)) (.map #[] 0) none
    have gB := gb_alloc ((w.alloc (.cells (strsC (List.replicate n noS)).toArray 9)).alloc (.map #[] 0)) (.cells (dkC (.slice (some ⟨w.heap.size, 0, none⟩) n n) (.slice none 0 0) (w.heap.size + 1) ⟨filN n 0, [], false, false, 0, 0⟩) 80) none
    refine ⟨?_, ?_, World.ownsRow_nil _ _ _ _, ?_, mapIs_nil, by omega, by omega⟩
    · have := Blk.mk ((w.alloc (.cells (strsC (List.replicate n noS)).toArray 9)).alloc (.map #[] 0)) 80 (dkC (.slice (some ⟨w.heap.size, 0, none⟩) n n) (.slice none 0 0) (w.heap.size + 1) ⟨filN n 0, [], false, false, 0, 0⟩)
      simp only [World.size_alloc] at this
      exact this
    · have hl : (filN n 0).length = n := filN_length n 0 (by omega)
      have hb := ((Blk.mk w 9 (strsC (List.replicate n noS)).toArray).keep0 gA).keep0 gB
      show World.ownsRow _ _ _ 1 _ (filN n 0).length (strsC (filN n 0))
      rw [hl]
      have e : (strsC (filN n 0)).toArray = (strsC (List.replicate n noS)).toArray := by simp [filN]
      exact owns_of_blk (l := filN n 0) (hb.trans (congrArg (fun z => some (Obj.cells z 9 (0, 0))) e.symm)) (Nat.le_refl _) hl (by omega)
    · have hm := World.ownsMap_made (w.alloc (.cells (strsC (List.replicate n noS)).toArray 9)) Tryd.prog 3 (plainElem (H := Unit) Tryd.prog 3)
      rw [World.size_alloc] at hm
      exact hm.kept gB (by simp)
  have hg0 : w.grownBy (((w.alloc (.cells (strsC (List.replicate n noS)).toArray 9)).alloc (.map #[] 0)).alloc (.cells (dkC (.slice (some ⟨w.heap.size, 0, none⟩) n n) (.slice none 0 0) (w.heap.size + 1) ⟨filN n 0, [], false, false, 0, 0⟩) 80)) none := gb_trans (gb_trans (gb_alloc _ _ _) (gb_alloc _ _ _)) (gb_alloc _ _ _)
  have HP0 := Lib.hid (And.intro hP0 hg0)
  clear hP0 hg0
  go_enter Tryd.func13, Tryd.ntmps13
  go_wp2_with (go_at_call 41; (refine (HRep.out _).mono ?_); rintro e w4 ⟨rfl, hb4⟩; have g4 := gb_of_below hb4; have hP4 := PDv.keep0 HP0.out.1 g4; have hg4 := gb_trans HP0.out.2 g4; obtain ⟨c0, _, _, _, _, _, _⟩ := dk_cells hP4.1; clear hb4)
  have HP4 := Lib.hid (And.intro hP4 hg4)
  clear hP4 hg4 c0 g4 mk hmm
  go_loopw [5, 23] (fun _ v wr => ∃ k : Nat, k ≤ n ∧ v = .int .i64 k ∧ PDv wr w.heap.size (w.heap.size + 1 + 1) (.slice (some ⟨w.heap.size, 0, none⟩) n n) (.slice none 0 0) (w.heap.size + 1) (.map []) ⟨filN n k, [], false, false, 0, 0⟩ ∧ w.grownBy wr none) (fun _ v _ => n - (intOf v).toNat)
  case atStart => exact ⟨0, by omega, rfl, HP4.out.1, HP4.out.2⟩
  case round =>
    obtain ⟨k, hk, rfl, hP, hg⟩ := hrel
    obtain ⟨c0, _, _, _, _, _, _⟩ := dk_cells hP.1
    by_cases hlt : k < n
    · have hll := filN_length n k hk
      have hrow : wr.ownsRow w.heap.size 9 1 (.slice (some ⟨w.heap.size, 0, none⟩) n n) n (strsC (filN n k)) := by
        have := hP.2.1; rw [show (St.mk (filN n k) [] false false 0 0).secs.length = n from hll] at this; exact this
      have s0 : wr.cell? ⟨w.heap.size, k, none⟩ = some (.string ((filN n k).getD k noS)) := by rw [hrow.cellAt k (by omega)]; exact strs_at (by omega)
      have s1 := hrow.frozenAt k
      have hnew := pdv_lay (d := noB) hP (show n = (St.mk (filN n k) [] false false 0 0).secs.length from hll.symm) (m := k) hlt
      have hset := filN_set n k hlt
      rw [show ({ (St.mk (filN n k) [] false false 0 0) with secs := (St.mk (filN n k) [] false false 0 0).secs.set k noB } : St) = ⟨filN n (k + 1), [], false, false, 0, 0⟩ by show St.mk ((filN n k).set k noB) [] false false 0 0 = _; rw [hset]] at hnew
      have hgn := gb_step hg (gb_set wr w.heap.size k none (.string noB)) (Nat.le_refl _)
      have HN := Lib.hid (And.intro hnew hgn)
      generalize (filN n k).getD k noS = y at s0
      have hk0 : (0 : Int) ≤ (k : Int) := by omega
      have hk1 : (k : Int) < (n : Int) := by omega
      clear hnew hset hgn hP hrow hll
      go_wp2
      go_roundw
      case rel => exact ⟨k + 1, by omega, by go_num, HN.out.1, HN.out.2⟩
      case measure => simp [intOf]; omega
    · obtain rfl : k = n := by omega
      rw [filN_all] at hP
      have hlt' : ¬ ((k : Int) < (k : Int)) := by omega
      go_wp2
      go_ret
      refine ⟨w.heap.size + 1 + 1, rfl, ⟨_, _, _, _, hP, fun j hj => ?_⟩, hg⟩
      have h1 := hP.1.lt
      have h2 := hP.2.2.2.1.lt
      rcases hj with rfl | rfl | hj | hj
      · exact ⟨by omega, h1⟩
      · exact ⟨by omega, h2⟩
      · exact hP.2.1.lt j hj
      · cases hj
theorem wp_append_run {P : Program} {w w' : World} {o : Oper} {a : Act} {K : Act → World → Prop} {Q : Exit → Act → World → Prop} (s x : Operand) (t : TypeId)
    (ho : o.op = .call { callee := .builtin .append, args := #[s, x], argTypes := #[t, t] }) (u1 u2 : Value) (hs : a.eval s = u1) (hx : a.eval x = u2) (v' : Value) (ty : TypeId)
    (hrun : (Builtin.append_ #[t, t] ty #[u1, u2]).run P w = .ok v' w') (hty : o.type = ty) (h : K (a.put o.dst v') w') : o.wp P a w K Q := by
  subst hty
  unfold Oper.wp
  simp [execOp, ho, resolve, invoke, builtin, hs, hx, hrun, Result.andThen]
  exact h
set_option maxRecDepth 100000 in
set_option maxHeartbeats 2000000 in
theorem rnew_any (n : Nat) (w : World) (h1 : 64 ≤ n) (h2 : n ≤ 1024) : Calls Tryd.prog 14 #[.int .i64 (n : Nat)] w fun e w' => ∃ p, e = .returned (.pointer (some ⟨p, 0, none⟩)) ∧ RD w' w.heap.size (newF w w') p (newS n) ∧ w.grownBy w' none := by
  have hd1 : decide ((n : Int) < 64) = false := decide_eq_false (by omega)
  have hd2 : decide (1024 < (n : Int)) = false := decide_eq_false (by omega)
  obtain ⟨i0, hi0, hz0, hz1, hz2⟩ := info_parts Tryd.infoStr
  have hP0 : RDv (w.alloc (.cells (rkC (.slice none 0 0) (.slice none 0 0) 0 (newS 0)) 56)) w.heap.size w.heap.size (.slice none 0 0) (.slice none 0 0) 0 (newS 0) :=
    ⟨Blk.mk w 56 _, World.ownsRow_nil _ _ _ _, World.ownsRow_nil _ _ _ _, Nat.le_refl _, fun e => by cases e⟩
  have hg0 : w.grownBy (w.alloc (.cells (rkC (.slice none 0 0) (.slice none 0 0) 0 (newS 0)) 56)) none := gb_alloc _ _ _
  have HP0 := Lib.hid (And.intro hP0 hg0)
  clear hP0 hg0
  go_enter Tryd.func14, Tryd.ntmps14
  go_wp2_with fail
  go_loopw [4] (fun v wr => ∃ k vs, k ≤ n ∧ v = .int .i64 (k : Nat) ∧ RDv wr w.heap.size w.heap.size vs (.slice none 0 0) 0 (newS k) ∧ w.grownBy wr none) (fun v _ => n - (intOf v).toNat)
  case atStart => exact ⟨0, _, by omega, rfl, HP0.out.1, HP0.out.2⟩
  case round =>
    obtain ⟨k, vs, hk, rfl, hP, hg⟩ := hrel
    obtain ⟨ao, cap, rfl⟩ := rdv_vs hP
    obtain ⟨c0, _, _, _, _, _⟩ := rk_cells hP.1
    by_cases hlt : k < n
    · have hl : (newS k).secs.length = k := by simp [newS]
      rw [hl] at hP c0
      have hrow : wr.ownsRow w.heap.size 9 1 (.slice ao k cap) k (strsC (List.replicate k noB)) := by
        have := hP.2.1; rw [hl] at this; exact this
      have mk := make_sector wr
      have mk2 := make_sector wr.drew
      have g1 : wr.grownBy (wr.alloc (.cells (bytesC (rep 256 0)).toArray 5)).drew none := gb_trans (gb_alloc _ _ _) (gb_drew _ _)
      have kb : Blk (wr.alloc (.cells (bytesC (rep 256 0)).toArray 5)).drew wr.heap.size 5 (bytesC (rep 256 0)).toArray := Blk.mk wr 5 (bytesC (rep 256 0)).toArray
      have hcv : (convert 29 9 (.slice (some ⟨wr.heap.size, 0, none⟩) 256 256)).run Tryd.prog (wr.alloc (.cells (bytesC (rep 256 0)).toArray 5)).drew = .ok (.string noB) (wr.alloc (.cells (bytesC (rep 256 0)).toArray 5)).drew := by
        have h := run_convert_bytes_back (wr.alloc (.cells (bytesC (rep 256 0)).toArray 5)).drew 29 9 5 ⟨wr.heap.size, 0, none⟩ 256 (rep 256 0) Tryd.underlying29 Tryd.underlying5 Tryd.underlying9 (fun j hj => by
          rw [add_lit]
          refine kb.cell j ?_
          rw [List.getElem?_toArray, bytes_at hj]
          rw [show (rep 256 0).getD j 0 = (rep 256 0)[j] by rw [List.getD, List.getElem?_eq_getElem hj]; rfl])
        rw [rep_length] at h
        exact h
      have c01 := g1.cell c0 (by simp)
      have hsz := g1.size
      have hszw := hg.size
      have g2 : (wr.alloc (.cells (bytesC (rep 256 0)).toArray 5)).drew.grownBy ((wr.alloc (.cells (bytesC (rep 256 0)).toArray 5)).alloc (.cells #[.string noB] 9)).drew none := gb_alloc (wr.alloc (.cells (bytesC (rep 256 0)).toArray 5)).drew (.cells #[.string noB] 9) none
      have g12 := gb_trans g1 g2
      have hrow2 := own_keep0' hrow g12
      obtain ⟨v3, w3, hap, q3, g3, hnear⟩ := near_append (P := Tryd.prog) ((wr.alloc (.cells (bytesC (rep 256 0)).toArray 5)).alloc (.cells #[.string noB] 9)).drew w.heap.size 37 37 9 i0 (.string ⟨#[]⟩) 1 16 Tryd.underlying37 hi0 hz0 hz1 hz2 rfl (by decide) (.slice ao k cap) k _ hrow2 ⟨(wr.alloc (.cells (bytesC (rep 256 0)).toArray 5)).heap.size, 0, none⟩ 1 1 [.string noB] rfl (cell_one_new (wr.alloc (.cells (bytesC (rep 256 0)).toArray 5)) _ _) (one_str noB) (by unfold maxLen; omega) (by omega) (by have := g12.size; omega)
      obtain ⟨o3, c3, rfl, _⟩ := Sl.of_owns q3
      have b2 := hP.1.keep0 g12
      have b3 := b2.keep g3 (blk_row b2 hrow2 (by decide)).symm
      have gs := gb_set w3 w.heap.size 0 none (.slice o3 (k + 1) c3)
      have hnew : RDv (w3.setCell ⟨w.heap.size, 0, none⟩ (.slice o3 (k + 1) c3)) w.heap.size w.heap.size (.slice o3 (k + 1) c3) (.slice none 0 0) 0 (newS (k + 1)) := by
        refine ⟨b3.set 0 _, ?_, World.ownsRow_nil _ _ _ _, Nat.le_refl _, fun e => by cases e⟩
        show World.ownsRow _ _ _ 1 _ (List.replicate (k + 1) noB).length (strsC (List.replicate (k + 1) noB))
        rw [List.replicate_succ', strsC_snoc, List.length_append, List.length_replicate]
        exact q3.kept gs (Or.inr (blk_row b3 q3 (by decide)))
      have hgn : w.grownBy (w3.setCell ⟨w.heap.size, 0, none⟩ (.slice o3 (k + 1) c3)) none := gb_step (gb_own2 (gb_trans hg g12) hrow2 (Nat.le_refl _) g3) gs (Nat.le_refl _)
      have e0 := b3.cell 0 rfl
      have f0 := b3.free 0
      have HN := Lib.hid (And.intro hnew hgn)
      have c02 := g12.cell c0 (by simp)
      simp only [World.size_alloc] at hap
      have HA := Lib.hid hap
      clear hap hnew hgn hP hrow hrow2 q3 g3 hnear b2 b3 kb g1 g2 g12 gs
      -- the region
      go_wp2
      refine wp_region_noPanic ?_
      refine wp_region_held_drew (S := fun _ => True) (by kernel_rfl) trivial (fun hHeld => ?_)
      refine wpAnyH_take (i := 0) (v := ?_) (List.getElem?_toArray.trans rfl) (by kernel_rfl) (by kernel_rfl) (by kernel_rfl) (fun _ _ _ h => h) (Or.inl ⟨by rfl, ?_⟩) hHeld ?_
      rotate_left
      · intro w' _; go_simp; try with_reducible rfl
      try simp only [Act.put, List.setIfInBounds_toArray, List.set_cons_zero, List.set_cons_succ]
      refine wpAnyH_take (i := 1) (v := ?_) (List.getElem?_toArray.trans rfl) (by kernel_rfl) (by kernel_rfl) (by kernel_rfl) (fun _ _ _ h => h) (Or.inl ⟨by rfl, ?_⟩) hHeld ?_
      rotate_left
      · intro w' _; go_simp; try with_reducible rfl
      try simp only [Act.put, List.setIfInBounds_toArray, List.set_cons_zero, List.set_cons_succ]
      refine wpAnyH_take (i := 2) (v := ?_) (List.getElem?_toArray.trans rfl) (by kernel_rfl) (by kernel_rfl) (by kernel_rfl) (fun _ _ _ h => h) (Or.inl ⟨by rfl, ?_⟩) hHeld ?_
      rotate_left
      · intro w' _; go_simp; try with_reducible rfl
      try simp only [Act.put, List.setIfInBounds_toArray, List.set_cons_zero, List.set_cons_succ]
      refine wpAnyH_take (i := 3) (v := ?_) (List.getElem?_toArray.trans rfl) (by kernel_rfl) (by kernel_rfl) (by kernel_rfl) (fun _ _ _ h => h) (Or.inl ⟨by rfl, ?_⟩) hHeld ?_
      rotate_left
      · intro w' _; go_simp; try with_reducible rfl
      try simp only [Act.put, List.setIfInBounds_toArray, List.set_cons_zero, List.set_cons_succ]
      refine wpAnyH_ready (rs := [4, 5]) (by kernel_rfl) (by simp) ?_
      refine AllReadyH.cons (List.getElem?_toArray.trans rfl) (fun K hK => ?_) (AllReadyH.cons (List.getElem?_toArray.trans rfl) (fun K hK => ?_) AllReadyH.nil)
      · skip
        go_simp
        refine hK.out _ _ trivial (fun hHeld => ?_)
        clear hK K
        try simp only [Act.put, List.setIfInBounds_toArray, List.set_cons_zero, List.set_cons_succ]
        refine wpAnyH_ready (rs := [5]) (by kernel_rfl) (by simp) ?_
        refine AllReadyH.cons (List.getElem?_toArray.trans rfl) (fun K hK => ?_) AllReadyH.nil
        · skip
          go_simp
          refine hK.out _ _ trivial (fun hHeld => ?_)
          clear hK K
          try simp only [Act.put, List.setIfInBounds_toArray, List.set_cons_zero, List.set_cons_succ]
          refine wpAnyH_ready (rs := [6]) (by kernel_rfl) (by simp) ?_
          refine AllReadyH.cons (List.getElem?_toArray.trans rfl) (fun K hK => ?_) AllReadyH.nil
          · skip
            go_simp
            refine hK.out _ _ trivial (fun hHeld => ?_)
            clear hK K
            try simp only [Act.put, List.setIfInBounds_toArray, List.set_cons_zero, List.set_cons_succ]
            refine wpAnyH_ready (rs := [7]) (by kernel_rfl) (by simp) ?_
            refine AllReadyH.cons (List.getElem?_toArray.trans rfl) (fun K hK => ?_) AllReadyH.nil
            · skip
              go_simp
              refine hK.out _ _ trivial (fun hHeld => ?_)
              clear hK K
              try simp only [Act.put, List.setIfInBounds_toArray, List.set_cons_zero, List.set_cons_succ]
              refine wpAnyH_ready (rs := [8]) (by kernel_rfl) (by simp) ?_
              refine AllReadyH.cons (List.getElem?_toArray.trans rfl) (fun K hK => ?_) AllReadyH.nil
              rw [if_pos (by rfl)]
              refine wp_append_run (.tmp 22) (.tmp 25) 37 rfl (.slice ao k cap) (.slice (some ⟨wr.heap.size + 1, 0, none⟩) 1 1) rfl rfl _ _ HA.out rfl ?_
              refine hK.out _ _ trivial (fun hHeld => ?_)
              clear hK K
              try simp only [Act.put, List.setIfInBounds_toArray, List.set_cons_zero, List.set_cons_succ]
              refine wpAnyH_take (i := 9) (v := ?_) (List.getElem?_toArray.trans rfl) (by kernel_rfl) (by kernel_rfl) (by kernel_rfl) (fun _ _ _ h => h) (Or.inl ⟨by rfl, ?_⟩) hHeld ?_
              rotate_left
              · intro w' _; go_simp; try with_reducible rfl
              try simp only [Act.put, List.setIfInBounds_toArray, List.set_cons_zero, List.set_cons_succ]
              refine wpAnyH_take (i := 10) (v := ?_) (List.getElem?_toArray.trans rfl) (by kernel_rfl) (by kernel_rfl) (by kernel_rfl) (fun _ _ _ h => h) (Or.inl ⟨by rfl, ?_⟩) hHeld ?_
              rotate_left
              · intro w' _; go_simp; try with_reducible rfl
              try simp only [Act.put, List.setIfInBounds_toArray, List.set_cons_zero, List.set_cons_succ]
              refine wpAnyH_ready (rs := [11]) (by kernel_rfl) (by simp) ?_
              refine AllReadyH.cons (List.getElem?_toArray.trans rfl) (fun K hK => ?_) AllReadyH.nil
              go_simp
              refine hK.out _ _ trivial (fun hHeld => ?_)
              clear hK K
              try simp only [Act.put, List.setIfInBounds_toArray, List.set_cons_zero, List.set_cons_succ]
              refine wpAnyH_done (by kernel_rfl) ?_ _
              refine NoPanic.normal ?_
              go_wp2
              go_roundw
              case rel => exact ⟨k + 1, _, by omega, by go_num, HN.out.1, HN.out.2⟩
              case measure => simp [intOf]; omega
      · skip
        go_simp
        refine hK.out _ _ trivial (fun hHeld => ?_)
        clear hK K
        try simp only [Act.put, List.setIfInBounds_toArray, List.set_cons_zero, List.set_cons_succ]
        refine wpAnyH_ready (rs := [4, 6]) (by kernel_rfl) (by simp) ?_
        refine AllReadyH.cons (List.getElem?_toArray.trans rfl) (fun K hK => ?_) (AllReadyH.cons (List.getElem?_toArray.trans rfl) (fun K hK => ?_) AllReadyH.nil)
        · skip
          go_simp
          refine hK.out _ _ trivial (fun hHeld => ?_)
          clear hK K
          try simp only [Act.put, List.setIfInBounds_toArray, List.set_cons_zero, List.set_cons_succ]
          refine wpAnyH_ready (rs := [6]) (by kernel_rfl) (by simp) ?_
          refine AllReadyH.cons (List.getElem?_toArray.trans rfl) (fun K hK => ?_) AllReadyH.nil
          · skip
            go_simp
            refine hK.out _ _ trivial (fun hHeld => ?_)
            clear hK K
            try simp only [Act.put, List.setIfInBounds_toArray, List.set_cons_zero, List.set_cons_succ]
            refine wpAnyH_ready (rs := [7]) (by kernel_rfl) (by simp) ?_
            refine AllReadyH.cons (List.getElem?_toArray.trans rfl) (fun K hK => ?_) AllReadyH.nil
            · skip
              go_simp
              refine hK.out _ _ trivial (fun hHeld => ?_)
              clear hK K
              try simp only [Act.put, List.setIfInBounds_toArray, List.set_cons_zero, List.set_cons_succ]
              refine wpAnyH_ready (rs := [8]) (by kernel_rfl) (by simp) ?_
              refine AllReadyH.cons (List.getElem?_toArray.trans rfl) (fun K hK => ?_) AllReadyH.nil
              rw [if_pos (by rfl)]
              refine wp_append_run (.tmp 22) (.tmp 25) 37 rfl (.slice ao k cap) (.slice (some ⟨wr.heap.size + 1, 0, none⟩) 1 1) rfl rfl _ _ HA.out rfl ?_
              refine hK.out _ _ trivial (fun hHeld => ?_)
              clear hK K
              try simp only [Act.put, List.setIfInBounds_toArray, List.set_cons_zero, List.set_cons_succ]
              refine wpAnyH_take (i := 9) (v := ?_) (List.getElem?_toArray.trans rfl) (by kernel_rfl) (by kernel_rfl) (by kernel_rfl) (fun _ _ _ h => h) (Or.inl ⟨by rfl, ?_⟩) hHeld ?_
              rotate_left
              · intro w' _; go_simp; try with_reducible rfl
              try simp only [Act.put, List.setIfInBounds_toArray, List.set_cons_zero, List.set_cons_succ]
              refine wpAnyH_take (i := 10) (v := ?_) (List.getElem?_toArray.trans rfl) (by kernel_rfl) (by kernel_rfl) (by kernel_rfl) (fun _ _ _ h => h) (Or.inl ⟨by rfl, ?_⟩) hHeld ?_
              rotate_left
              · intro w' _; go_simp; try with_reducible rfl
              try simp only [Act.put, List.setIfInBounds_toArray, List.set_cons_zero, List.set_cons_succ]
              refine wpAnyH_ready (rs := [11]) (by kernel_rfl) (by simp) ?_
              refine AllReadyH.cons (List.getElem?_toArray.trans rfl) (fun K hK => ?_) AllReadyH.nil
              go_simp
              refine hK.out _ _ trivial (fun hHeld => ?_)
              clear hK K
              try simp only [Act.put, List.setIfInBounds_toArray, List.set_cons_zero, List.set_cons_succ]
              refine wpAnyH_done (by kernel_rfl) ?_ _
              refine NoPanic.normal ?_
              go_wp2
              go_roundw
              case rel => exact ⟨k + 1, _, by omega, by go_num, HN.out.1, HN.out.2⟩
              case measure => simp [intOf]; omega
        · skip
          go_simp
          refine hK.out _ _ trivial (fun hHeld => ?_)
          clear hK K
          try simp only [Act.put, List.setIfInBounds_toArray, List.set_cons_zero, List.set_cons_succ]
          refine wpAnyH_ready (rs := [4, 7]) (by kernel_rfl) (by simp) ?_
          refine AllReadyH.cons (List.getElem?_toArray.trans rfl) (fun K hK => ?_) (AllReadyH.cons (List.getElem?_toArray.trans rfl) (fun K hK => ?_) AllReadyH.nil)
          · skip
            go_simp
            refine hK.out _ _ trivial (fun hHeld => ?_)
            clear hK K
            try simp only [Act.put, List.setIfInBounds_toArray, List.set_cons_zero, List.set_cons_succ]
            refine wpAnyH_ready (rs := [7]) (by kernel_rfl) (by simp) ?_
            refine AllReadyH.cons (List.getElem?_toArray.trans rfl) (fun K hK => ?_) AllReadyH.nil
            · skip
              go_simp
              refine hK.out _ _ trivial (fun hHeld => ?_)
              clear hK K
              try simp only [Act.put, List.setIfInBounds_toArray, List.set_cons_zero, List.set_cons_succ]
              refine wpAnyH_ready (rs := [8]) (by kernel_rfl) (by simp) ?_
              refine AllReadyH.cons (List.getElem?_toArray.trans rfl) (fun K hK => ?_) AllReadyH.nil
              rw [if_pos (by rfl)]
              refine wp_append_run (.tmp 22) (.tmp 25) 37 rfl (.slice ao k cap) (.slice (some ⟨wr.heap.size + 1, 0, none⟩) 1 1) rfl rfl _ _ HA.out rfl ?_
              refine hK.out _ _ trivial (fun hHeld => ?_)
              clear hK K
              try simp only [Act.put, List.setIfInBounds_toArray, List.set_cons_zero, List.set_cons_succ]
              refine wpAnyH_take (i := 9) (v := ?_) (List.getElem?_toArray.trans rfl) (by kernel_rfl) (by kernel_rfl) (by kernel_rfl) (fun _ _ _ h => h) (Or.inl ⟨by rfl, ?_⟩) hHeld ?_
              rotate_left
              · intro w' _; go_simp; try with_reducible rfl
              try simp only [Act.put, List.setIfInBounds_toArray, List.set_cons_zero, List.set_cons_succ]
              refine wpAnyH_take (i := 10) (v := ?_) (List.getElem?_toArray.trans rfl) (by kernel_rfl) (by kernel_rfl) (by kernel_rfl) (fun _ _ _ h => h) (Or.inl ⟨by rfl, ?_⟩) hHeld ?_
              rotate_left
              · intro w' _; go_simp; try with_reducible rfl
              try simp only [Act.put, List.setIfInBounds_toArray, List.set_cons_zero, List.set_cons_succ]
              refine wpAnyH_ready (rs := [11]) (by kernel_rfl) (by simp) ?_
              refine AllReadyH.cons (List.getElem?_toArray.trans rfl) (fun K hK => ?_) AllReadyH.nil
              go_simp
              refine hK.out _ _ trivial (fun hHeld => ?_)
              clear hK K
              try simp only [Act.put, List.setIfInBounds_toArray, List.set_cons_zero, List.set_cons_succ]
              refine wpAnyH_done (by kernel_rfl) ?_ _
              refine NoPanic.normal ?_
              go_wp2
              go_roundw
              case rel => exact ⟨k + 1, _, by omega, by go_num, HN.out.1, HN.out.2⟩
              case measure => simp [intOf]; omega
          · skip
            go_simp
            refine hK.out _ _ trivial (fun hHeld => ?_)
            clear hK K
            try simp only [Act.put, List.setIfInBounds_toArray, List.set_cons_zero, List.set_cons_succ]
            refine wpAnyH_ready (rs := [4]) (by kernel_rfl) (by simp) ?_
            refine AllReadyH.cons (List.getElem?_toArray.trans rfl) (fun K hK => ?_) AllReadyH.nil
            · skip
              go_simp
              refine hK.out _ _ trivial (fun hHeld => ?_)
              clear hK K
              try simp only [Act.put, List.setIfInBounds_toArray, List.set_cons_zero, List.set_cons_succ]
              refine wpAnyH_ready (rs := [8]) (by kernel_rfl) (by simp) ?_
              refine AllReadyH.cons (List.getElem?_toArray.trans rfl) (fun K hK => ?_) AllReadyH.nil
              rw [if_pos (by rfl)]
              refine wp_append_run (.tmp 22) (.tmp 25) 37 rfl (.slice ao k cap) (.slice (some ⟨wr.heap.size + 1, 0, none⟩) 1 1) rfl rfl _ _ HA.out rfl ?_
              refine hK.out _ _ trivial (fun hHeld => ?_)
              clear hK K
              try simp only [Act.put, List.setIfInBounds_toArray, List.set_cons_zero, List.set_cons_succ]
              refine wpAnyH_take (i := 9) (v := ?_) (List.getElem?_toArray.trans rfl) (by kernel_rfl) (by kernel_rfl) (by kernel_rfl) (fun _ _ _ h => h) (Or.inl ⟨by rfl, ?_⟩) hHeld ?_
              rotate_left
              · intro w' _; go_simp; try with_reducible rfl
              try simp only [Act.put, List.setIfInBounds_toArray, List.set_cons_zero, List.set_cons_succ]
              refine wpAnyH_take (i := 10) (v := ?_) (List.getElem?_toArray.trans rfl) (by kernel_rfl) (by kernel_rfl) (by kernel_rfl) (fun _ _ _ h => h) (Or.inl ⟨by rfl, ?_⟩) hHeld ?_
              rotate_left
              · intro w' _; go_simp; try with_reducible rfl
              try simp only [Act.put, List.setIfInBounds_toArray, List.set_cons_zero, List.set_cons_succ]
              refine wpAnyH_ready (rs := [11]) (by kernel_rfl) (by simp) ?_
              refine AllReadyH.cons (List.getElem?_toArray.trans rfl) (fun K hK => ?_) AllReadyH.nil
              go_simp
              refine hK.out _ _ trivial (fun hHeld => ?_)
              clear hK K
              try simp only [Act.put, List.setIfInBounds_toArray, List.set_cons_zero, List.set_cons_succ]
              refine wpAnyH_done (by kernel_rfl) ?_ _
              refine NoPanic.normal ?_
              go_wp2
              go_roundw
              case rel => exact ⟨k + 1, _, by omega, by go_num, HN.out.1, HN.out.2⟩
              case measure => simp [intOf]; omega
      -- its end
    · obtain rfl : k = n := by omega
      have hlt' : ¬ ((k : Int) < (k : Int)) := by omega
      go_wp2
      go_ret
      refine ⟨w.heap.size, rfl, ⟨_, _, _, hP, fun j hj => ?_⟩, hg⟩
      have h1 := hP.1.lt
      rcases hj with rfl | hj | hj
      · exact ⟨by omega, h1⟩
      · exact hP.2.1.lt j hj
      · cases hj
end Go.Proofs.YtcoegaipojnndaaDoor
