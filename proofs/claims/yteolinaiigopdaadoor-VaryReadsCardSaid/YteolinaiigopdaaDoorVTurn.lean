/-
  What the statements' own 'turned' answers, over this seat's translation: a text that is no longer than the one that came in; condition: that one has at most a million bytes.
-/
import Derived.Test.YteolinaiigopdaaDoorVRrd
import Derived.RegionTactic
import Derived.Laws.BitsAllLaws
import Derived.Laws.BitsLemmas
namespace Go.Proofs.YteolinaiigopdaaDoor
open Go.RowKit

/-- A text no longer than n. -/
def TurnGot (w : World) (n : Nat) (e : Ending) (w' : World) : Prop := ∃ S : ByteArray, e = .returned (.string S) ∧ S.size ≤ n ∧ w.grownBy w' none
/-- The bytes of a new array: a slice that reads as bytes, and may be written. -/
def Row (w : World) (b cap : Nat) (l : List UInt8) : Prop := l.length ≤ cap ∧ (∀ j, j < l.length → w.frozen? ⟨b, j, none⟩ = false) ∧ ∀ j u, (bcells l)[j]? = some u → w.cell? ⟨b, j, none⟩ = some u
theorem Row.bs {w : World} {b cap : Nat} {l : List UInt8} (h : Row w b cap l) (n : Nat) (hn : n ≤ l.length) : Bs w (.slice (some ⟨b, 0, none⟩) n cap) (l.take n) := by
  obtain ⟨h1, _, h3⟩ := h
  refine ⟨some ⟨b, 0, none⟩, cap, by simp [Nat.min_eq_left hn], by simp; omega, (fun e => by cases e), fun a e j u hj => ?_⟩
  cases e
  have hadd : (⟨b, 0, none⟩ : Addr).add j = ⟨b, j, none⟩ := by unfold Addr.add; split <;> simp [*]
  rw [hadd]
  refine h3 j u ?_
  rw [bcells_take, List.getElem?_take] at hj
  split at hj
  · exact hj
  · cases hj
theorem Row.set {w : World} {b cap : Nat} {l : List UInt8} (h : Row w b cap l) (j : Nat) (hj : j < l.length) (c : UInt8) : Row (w.setCell ⟨b, j, none⟩ (.int .u8 c.toNat)) b cap (l.set j c) := by
  obtain ⟨h1, h2, h3⟩ := h
  refine ⟨by simpa using h1, fun i hi => ?_, fun i u hi => ?_⟩
  · rw [World.frozen?_setCell]; exact h2 i (by simpa using hi)
  · by_cases e : i = j
    · subst e
      have hu : u = .int .u8 c.toNat := by
        simp [bcells, hj] at hi
        exact hi.symm
      subst hu
      have hc := h3 i (.int .u8 l[i].toNat) (by simp [bcells, hj])
      exact World.cell?_setCell_same _ _ _ hc
    · have hi2 : (bcells l)[i]? = some u := by
        rw [← hi]
        simp [bcells, Ne.symm e]
      rw [World.cell?_setCell_other w ⟨b, j, none⟩ ⟨b, i, none⟩ _ (by intro h; injection h with _ h2; exact e h2.symm)]
      exact h3 i u hi2
theorem xor8 (x y : Nat) (hx : x < 256) (hy : y < 256) : ∃ c : UInt8, bits .xor .u8 (x : Int) (y : Int) = (c.toNat : Int) := by
  have hlt : x ^^^ y < 2 ^ 8 := Nat.xor_lt_two_pow (by omega) (by omega)
  refine ⟨UInt8.ofNat (x ^^^ y), ?_⟩
  show IntKind.u8.wrap (((BitVec.ofInt 8 (x : Int) ^^^ BitVec.ofInt 8 (y : Int)).toNat : Nat) : Int) = _
  rw [BitVec.ofInt_natCast, BitVec.ofInt_natCast, BitVec.toNat_xor, BitVec.toNat_ofNat, BitVec.toNat_ofNat, Nat.mod_eq_of_lt (show x < 2 ^ 8 by omega), Nat.mod_eq_of_lt (show y < 2 ^ 8 by omega)]
  simp only [IntKind.wrap, IntKind.bits, IntKind.signed]; simp
  rw [Nat.mod_eq_of_lt hx, Nat.mod_eq_of_lt hy]
  omega
theorem row_of (s : ByteArray) (w : World) (cap : Nat) (hcap : s.size ≤ cap) (fr : Nat × Nat) (hfr : (bytesRow s cap).size ≤ fr.1) : Row (w.drew.alloc (.cells (bytesRow s cap) 5 fr)) w.heap.size cap s.data.toList := by
  have hb : (w.drew.alloc (.cells (bytesRow s cap) 5 fr)).heap[w.heap.size]? = some (.cells (bytesRow s cap) 5 fr) := by simpa using heap_alloc_new w.drew (.cells (bytesRow s cap) 5 fr)
  have hsz : s.size ≤ (bytesRow s cap).size := by unfold bytesRow; rw [Array.size_append, Array.size_map]; exact Nat.le_add_right _ _
  refine ⟨by simpa using hcap, fun j hj => ?_, fun j u hj => ?_⟩
  · have hj' : j < s.size := by simpa using hj
    simp only [World.frozen?, hb]
    simp; omega
  · have hjl : j < s.data.size := by
      have := (List.getElem?_eq_some_iff.1 hj).1
      simpa [bcells_length] using this
    simp only [World.cell?, hb]
    rw [bytesRow, Array.getElem?_append_left (by simpa using hjl)]
    simpa [bcells] using hj

set_option maxRecDepth 100000 in
set_option maxHeartbeats 2000000 in
theorem turned_any (s : ByteArray) (ta tb : Nat) (ts : Int) (w : World) (hs : s.size ≤ 1000000) (hta : ta < 65536) (htb : tb < 256) (hts : -32768 ≤ ts) (hts2 : ts ≤ 32767) :
    Calls Tryd.prog 14 #[.string s, .agg #[.int .u16 ta, .int .u8 tb, .int .i16 ts]] w (TurnGot w s.size) := by
  obtain ⟨w0, hw0⟩ : ∃ w0 : World, w0 = w.alloc (.cells #[.int .u16 ta, .int .u8 tb, .int .i16 ts] 37) := ⟨_, rfl⟩
  have k0 : Blk w0 w.heap.size 37 #[.int .u16 ta, .int .u8 tb, .int .i16 ts] := by rw [hw0]; exact Blk.mk _ _ _
  have g0 : w.grownBy w0 none := by rw [hw0]; exact gb_alloc _ _ _
  have z0 : w0.heap.size = w.heap.size + 1 := by rw [hw0]; simp
  have hcv := run_bytes_of_string (P := Tryd.prog) w0 9 59 5 s Tryd.underlying9 Tryd.underlying59 Tryd.underlying5
  have hcap := grownCap_ge w0 s.size 0 5
  obtain ⟨cap, hcapE⟩ : ∃ cap, cap = grownCap w0 s.size 0 5 := ⟨_, rfl⟩
  rw [← hcapE] at hcv hcap
  clear hcapE
  have hrow := row_of s w0 cap hcap ((bytesRow s cap).size, (bytesRow s cap).size + 1) (Nat.le_refl _)
  obtain ⟨w1, hw1⟩ : ∃ w1, w1 = w0.drew.alloc (.cells (bytesRow s cap) 5 ((bytesRow s cap).size, (bytesRow s cap).size + 1)) := ⟨_, rfl⟩
  have g1 : w0.grownBy w1 none := by rw [hw1]; exact gb_trans (gb_drew _ _) (gb_alloc _ _ _)
  rw [← hw1] at hcv hrow
  rw [z0] at hcv hrow
  have k1 := k0.keep0 g1
  have hg1 := gb_trans g0 g1
  have HW0 := Lib.hid hw0
  clear hw1 hw0 z0
  have c0 := Blk.cell k1 0 rfl
  have c1 := Blk.cell k1 1 rfl
  have c2 := Blk.cell k1 2 rfl
  go_enter Tryd.func14, Tryd.ntmps14
  go_upto_region 1 with (fail)
  rw [← HW0.out]
  by_cases hn : s.size = 0
  · have hn' : ¬ 0 < (s.size : Int) := by omega
    have hl3 : s.data.toList.length = s.size := by simp
    obtain ⟨L, hL⟩ : ∃ L, L = s.data.toList := ⟨_, rfl⟩
    have hrow3 := hrow
    rw [← hL] at hrow3 hl3
    have hg2 := hg1
    have hs0 : (s.size : Int) = 0 := by omega
    have HS0 := Lib.hid hn
    obtain ⟨w2, hw2⟩ : ∃ w2, w2 = w1 := ⟨_, rfl⟩
    clear hL hrow hn hs0
    by_cases hneg : ts < 0
    · have hcv3 := conv_bs _ _ _ (hrow3.bs s.size (by omega))
      go_wp2
      go_ret
      exact ⟨_, rfl, by show (L.take s.size).toArray.size ≤ s.size; simp; omega, hg2⟩
    · obtain ⟨N, rfl⟩ := Int.eq_ofNat_of_zero_le (show 0 ≤ ts by omega)
      by_cases hst : N < s.size
      · exact absurd hst (by have := HS0.out; omega)
      · have hcv3 := conv_bs _ _ _ (hrow3.bs s.size (by omega))
        have hst' : ¬ (N : Int) < (s.size : Int) := by omega
        go_wp2
        go_ret
        exact ⟨_, rfl, by show (L.take s.size).toArray.size ≤ s.size; simp; omega, hg2⟩
  · have hn' : 0 < (s.size : Int) := by omega
    obtain ⟨j, hj, hjl⟩ : ∃ j : Nat, (ta : Int) % (s.size : Int) = (j : Int) ∧ j < s.size := ⟨ta % s.size, by push_cast; rfl, Nat.mod_lt _ (by omega)⟩
    obtain ⟨c, hc⟩ := xor8 s[j].toNat tb s[j].toNat_lt htb
    have cj : w1.cell? ⟨w.heap.size + 1, j, none⟩ = some (.int .u8 s[j].toNat) := hrow.2.2 j _ (by simp [bcells, hjl]; rfl)
    have fj : w1.frozen? ⟨w.heap.size + 1, j, none⟩ = false := hrow.2.1 j (by simpa using hjl)
    have hj0 : (0 : Int) ≤ (j : Int) := Int.natCast_nonneg _
    have hj1 : (j : Int) < (s.size : Int) := by omega
    have hjt : (ta : Int).tmod (s.size : Int) = (j : Int) := by rw [Int.tmod_eq_emod_of_nonneg (by omega)]; exact hj
    have hsz0 : ((s.size : Int) == 0) = false := by rw [beq_eq_false_iff_ne]; omega
    have hwj : IntKind.i64.wrap (j : Int) = (j : Int) := by rw [IntKind.wrap_i64]; omega
    have hrow2 := hrow.set j (by simpa using hjl) c
    have HROW := Lib.hid hrow2
    go_wp2
    go_region
    have k2 := (k1.keep (gb_set w1 (w.heap.size + 1) j none (.int .u8 c.toNat)) (ne_some (by omega))).keep0 (gb_drew _ none)
    have hg2 : w.grownBy (w1.setCell ⟨w.heap.size + 1, j, none⟩ (.int .u8 c.toNat)).drew none := gb_trans (gb_step hg1 (gb_set _ _ _ _ _) (by omega)) (gb_drew _ _)
    have hrow3 : Row (w1.setCell ⟨w.heap.size + 1, j, none⟩ (.int .u8 c.toNat)).drew (w.heap.size + 1) cap (s.data.toList.set j c) := HROW.out
    have hl3 : (s.data.toList.set j c).length = s.size := by simp
    obtain ⟨w2, hw2⟩ : ∃ w2, w2 = (w1.setCell ⟨w.heap.size + 1, j, none⟩ (.int .u8 c.toNat)).drew := ⟨_, rfl⟩
    rw [← hw2] at k2 hg2 hrow3 ⊢
    obtain ⟨L, hL⟩ : ∃ L, L = s.data.toList.set j c := ⟨_, rfl⟩
    rw [← hL] at hrow3 hl3
    clear hw2 HROW hL hrow hrow2 hcv c0 c1 c2 cj fj hj hjt hwj hc k1 hg1 g1 g0 k0
    have c2 := Blk.cell k2 2 rfl
    by_cases hneg : ts < 0
    · have hcv := conv_bs _ _ _ (hrow3.bs s.size (by omega))
      go_wp2
      go_ret
      exact ⟨_, rfl, by show (L.take s.size).toArray.size ≤ s.size; simp; omega, hg2⟩
    · obtain ⟨N, rfl⟩ := Int.eq_ofNat_of_zero_le (show 0 ≤ ts by omega)
      by_cases hst : N < s.size
      · have hcv := conv_bs _ _ _ (hrow3.bs N (by omega))
        have hst' : (N : Int) < (s.size : Int) := by omega
        have hst2 : (N : Int) ≤ (cap : Int) := by omega
        go_wp2
        go_ret
        exact ⟨_, rfl, by show (L.take N).toArray.size ≤ s.size; simp; omega, hg2⟩
      · have hcv := conv_bs _ _ _ (hrow3.bs s.size (by omega))
        have hst' : ¬ (N : Int) < (s.size : Int) := by omega
        go_wp2
        go_ret
        exact ⟨_, rfl, by show (L.take s.size).toArray.size ≤ s.size; simp; omega, hg2⟩
end Go.Proofs.YteolinaiigopdaaDoor
