/-
  What the statements' own 'few' answers, over this seat's translation: a slice of forty fields at most, each text of 2010 bytes at most; condition: the slice that came in reads as fields whose numbers fit.
-/
import Derived.Test.YtcifabichcjjjaaDoorVWorks
import Derived.Laws.MakeOwn
namespace Go.Proofs.YtcifabichcjjjaaDoor
open Go.RowKit

/-- What few answers. -/
def FewGot (w : World) (e : Ending) (w' : World) : Prop :=
  ∃ v m, e = .returned v ∧ Fs w' v m ∧ m.length ≤ 40 ∧ (∀ f ∈ m, f.ok ∧ f.s.size ≤ 2010) ∧ w.grownBy w' none
/-- What holds at each round's head. -/
def FewRel (w : World) (len : Nat) (v5 v6 : Value) (wr : World) : Prop :=
  ∃ (k : Nat) (m : List Fd), k ≤ len ∧ k ≤ 40 ∧ v6 = .int .i64 k ∧ m.length = k ∧ wr.ownsRow w.heap.size 29 4 v5 m.length (fcells m) ∧ w.grownBy wr none ∧ ∀ f ∈ m, f.ok ∧ f.s.size ≤ 2010

theorem few_next {w wr W0 w3 : World} {len k : Nat} {m : List Fd} {f : Fd} {v v3 : Value} (hk : k < len) (hk40 : k < 40) (hmk : m.length = k) (hg : w.grownBy wr none) (gA : wr.grownBy W0 none) (hown : wr.ownsRow w.heap.size 29 4 v m.length (fcells m))
    (own3 : w3.ownsRow w.heap.size 29 4 v3 (m.length + 1) (fcells m ++ f.cells)) (g3 : W0.grownBy w3 v.ownBlock) (hm : ∀ f ∈ m, f.ok ∧ f.s.size ≤ 2010) (hf : f.ok ∧ f.s.size ≤ 2010) : FewRel w len v3 (.int .i64 ((k + 1 : Nat) : Int)) w3 := by
  refine ⟨k + 1, m ++ [f], by omega, by omega, rfl, by simp [hmk], owns_cast own3 (by simp) (by rw [fcells_append]; rfl), gb_own2 (gb_trans hg gA) (hown.kept gA (by cases hv : v.ownBlock <;> simp)) (Nat.le_refl _) g3, ?_⟩
  intro g hgm
  rw [List.mem_append] at hgm
  rcases hgm with h | h
  · exact hm g h
  · have : g = f := by simpa using h
    subst this
    exact hf
theorem cut_size (s : ByteArray) : (s.extract 0 (min (s.size : Int) 2010).toNat).size ≤ 2010 := by
  simp; omega

theorem zeros_made (W : World) (N : Nat) (hN : N ≤ 3000) : ∃ (W1 : World) (S : ByteArray), (Instr.makeSlice 59 (.int .i64 (N : Int)) (.int .i64 (N : Int))).run Tryd.prog W = .ok (.slice (some ⟨W.heap.size, 0, none⟩) N N) W1 ∧
    (convert 59 9 (.slice (some ⟨W.heap.size, 0, none⟩) N N)).run Tryd.prog W1 = .ok (.string S) W1 ∧ W.grownBy W1 none ∧ S.size = N ∧ W1.heap.size = W.heap.size + 1 := by
  obtain ⟨i0, hi, hz0, hz1, hz2⟩ := info_parts Tryd.info8
  refine ⟨W.alloc (.cells (madeCells (Value.int .u8 0).cells N) 5), ⟨(List.replicate N (0 : UInt8)).toArray⟩, ?_, ?_, gb_alloc _ _ _, by simp [ByteArray.size], by simp⟩
  · have h := run_make (P := Tryd.prog) W 59 5 i0 (.int .u8 0) Tryd.underlying59 hi hz0 .i64 .i64 (N : Int) (N : Int) (by omega) (by omega) (by rw [hz2]; omega) (by omega)
    rw [hz1, Nat.mul_one, Int.toNat_natCast] at h
    exact h
  · refine conv_bs _ _ (List.replicate N (0 : UInt8)) ⟨some ⟨W.heap.size, 0, none⟩, N, by simp, by simp, (fun e => by cases e), fun a e j u hj => ?_⟩
    cases e
    have hb : (W.alloc (.cells (madeCells (Value.int .u8 0).cells N) 5)).heap[W.heap.size]? = some (.cells (madeCells (Value.int .u8 0).cells N) 5 (0, 0)) := heap_alloc_new W _
    have hadd : (⟨W.heap.size, 0, none⟩ : Addr).add j = ⟨W.heap.size, j, none⟩ := by unfold Addr.add; split <;> simp [*]
    rw [hadd]
    simp only [World.cell?, hb]
    have hjl : j < N := by
      have := (List.getElem?_eq_some_iff.1 hj).1
      simpa [bcells_length] using this
    have hu : u = .int .u8 0 := by
      simp [bcells, hjl] at hj
      exact hj.symm
    subst hu
    have hs1 : (Value.int .u8 0).cells = #[.int .u8 0] := rfl
    rw [hs1]
    simp [madeCells, hjl, Nat.mod_one]

set_option maxRecDepth 100000 in
set_option maxHeartbeats 1000000 in
theorem few_any (v : Value) (l : List Fd) (longer : Nat) (w : World) (hv : Fs w v l) (hok : ∀ f ∈ l, f.ok) (hl : l.length ≤ 9223372036854775807) (hlong : longer < 256) :
    Calls Tryd.prog 8 #[v, .int .u8 longer] w (FewGot w) := by
  obtain ⟨ao, cap, rfl, hcap, hnil, hcell⟩ := hv
  have HC := Lib.hid hcell
  have HN := Lib.hid hnil
  have HO := Lib.hid hok
  clear hcell hnil hok
  go_enter Tryd.func8, Tryd.ntmps8
  go_wp2
  go_loopw [5, 6, 7] (fun v5 v6 _ wr => FewRel w l.length v5 v6 wr) (fun _ i _ _ => 40 - (intOf i).toNat)
  case atStart => exact ⟨0, [], by omega, by omega, rfl, rfl, World.ownsRow_nil _ _ _ _, gb_refl _ _, by simp⟩
  case round =>
    obtain ⟨k, m, hk, hk40, rfl, hmk, hown, hg, hm⟩ := hrel
    have HM := Lib.hid hm
    have HMK := Lib.hid hmk
    clear hm hmk
    by_cases hlt : k < l.length
    · by_cases hlt2 : k < 40
      · rcases hf : l[k] with ⟨tag, text, n, s⟩
        have hget : l[k]? = some ⟨tag, text, n, s⟩ := by rw [List.getElem?_eq_getElem hlt, hf]
        cases ao with
        | none => have := (HN.out rfl).1; omega
        | some a =>
          obtain ⟨h0, h1, h2, h3⟩ := at_of (fun j u hj => hg.cell (HC.out a rfl j u hj) (by simp)) hget
          obtain ⟨ht1, ht2, hnn, hss⟩ := HO.out _ (List.mem_of_getElem? hget)
          have HB := Lib.hid (And.intro ht1 (And.intro ht2 hnn))
          clear hget hf ht1 ht2 hnn
          obtain ⟨i0, hi, hz0, hz1, hz2⟩ := info_parts Tryd.infoF
          cases text
          · go_wp2_with (at_builtin; go_must (refine wpList_append_own _ rfl _ _ 22 rfl w.heap.size 29 i0 _ 4 40 Tryd.underlying22 hi hz0 hz1 hz2 rfl (by decide) _ _ _ rfl ((hown.alloc _).alloc _) ⟨wr.heap.size + 1, 0, none⟩ 1 1 (Fd.cells ⟨tag, false, n, s.extract 0 (min (s.size : Int) 2010).toNat⟩) rfl rfl (by simpa using cells_new (wr.alloc (.cells #[.int .i64 tag, .bool false, .int .u64 n, .string (s.extract 0 (min (s.size : Int) 2010).toNat)] 29)) ⟨tag, false, n, s.extract 0 (min (s.size : Int) 2010).toNat⟩ 29) (cells_one _) (by have := HMK.out; unfold maxLen; omega) (by have := HMK.out; omega) (by have := hg.size; simp; omega) ?_; intro v3 w3 own3 g3 _))
            have hRel := few_next (len := l.length) hlt hlt2 HMK.out hg (gb_trans (gb_alloc _ _ _) (gb_alloc _ _ _)) hown own3 g3 HM.out ⟨⟨HB.out.1, HB.out.2.1, HB.out.2.2, Nat.le_trans (cut_size s) (by decide)⟩, cut_size s⟩
            clear own3 g3 hown h0 h1 h2 h3
            go_wp2
            go_roundw
            case rel => exact hRel
            case measure => simp [intOf]; omega
          · by_cases hl0 : longer = 0
            · have hl0' : ¬ (0 : Int) < (longer : Int) := by omega
              go_wp2_with (at_builtin; go_must (refine wpList_append_own _ rfl _ _ 22 rfl w.heap.size 29 i0 _ 4 40 Tryd.underlying22 hi hz0 hz1 hz2 rfl (by decide) _ _ _ rfl ((hown.alloc _).alloc _) ⟨wr.heap.size + 1, 0, none⟩ 1 1 (Fd.cells ⟨tag, true, n, s.extract 0 (min (s.size : Int) 2010).toNat⟩) rfl rfl (by simpa using cells_new (wr.alloc (.cells #[.int .i64 tag, .bool true, .int .u64 n, .string (s.extract 0 (min (s.size : Int) 2010).toNat)] 29)) ⟨tag, true, n, s.extract 0 (min (s.size : Int) 2010).toNat⟩ 29) (cells_one _) (by have := HMK.out; unfold maxLen; omega) (by have := HMK.out; omega) (by have := hg.size; simp; omega) ?_; intro v3 w3 own3 g3 _))
              have hRel := few_next (len := l.length) hlt hlt2 HMK.out hg (gb_trans (gb_alloc _ _ _) (gb_alloc _ _ _)) hown own3 g3 HM.out ⟨⟨HB.out.1, HB.out.2.1, HB.out.2.2, Nat.le_trans (cut_size s) (by decide)⟩, cut_size s⟩
              clear own3 g3 hown h0 h1 h2 h3
              go_wp2
              go_roundw
              case rel => exact hRel
              case measure => simp [intOf]; omega
            · have hl0' : (0 : Int) < (longer : Int) := by omega
              have hlz : ((l.length : Int) == 0) = false := by rw [beq_eq_false_iff_ne]; omega
              by_cases hq : (k : Int) = (longer : Int) % (l.length : Int)
              · have hq' : ((k : Int) == (longer : Int) % (l.length : Int)) = true := by rw [beq_iff_eq]; exact hq
                obtain ⟨N, hN, hN2⟩ : ∃ N : Nat, (1990 + (longer : Int) % 20) = (N : Int) ∧ N ≤ 2009 := ⟨1990 + longer % 20, by omega, by omega⟩
                have kB := Blk.mk wr 29 #[.int .i64 tag, .bool true, .int .u64 n, .string (s.extract 0 (min (s.size : Int) 2010).toNat)]
                obtain ⟨W1, S, hmk, hcv, gM, hS, hZ⟩ := zeros_made (wr.alloc (.cells #[.int .i64 tag, .bool true, .int .u64 n, .string (s.extract 0 (min (s.size : Int) 2010).toNat)] 29)) N (by omega)
                have kB1 := kB.keep0 gM
                have c0 := Blk.cell kB1 0 rfl
                have c1 := Blk.cell kB1 1 rfl
                have c2 := Blk.cell kB1 2 rfl
                have c3 := Blk.cell kB1 3 rfl
                have f3 := Blk.free kB1 3
                have hz1' : (wr.alloc (.cells #[.int .i64 tag, .bool true, .int .u64 n, .string (s.extract 0 (min (s.size : Int) 2010).toNat)] 29)).heap.size = wr.heap.size + 1 := by simp
                rw [hz1'] at hmk hcv hZ
                clear hz1'
                have HS := Lib.hid hS
                have HZ := Lib.hid hZ
                clear hS hZ hq
                have gA2 : wr.grownBy (W1.setCell ⟨wr.heap.size, 3, none⟩ (.string S)) none := gb_step (gb_trans (gb_alloc _ _ _) gM) (gb_set _ _ _ _ _) (Nat.le_refl _)
                have own2 := hown.kept gA2 (by cases hv : u5.ownBlock <;> simp)
                go_wp2_with (at_builtin; go_must (refine wpList_append_own _ rfl _ _ 22 rfl w.heap.size 29 i0 _ 4 40 Tryd.underlying22 hi hz0 hz1 hz2 rfl (by decide) _ _ _ rfl (own2.alloc _) ⟨W1.heap.size, 0, none⟩ 1 1 (Fd.cells ⟨tag, true, n, S⟩) rfl rfl (by simpa using cells_new (W1.setCell ⟨wr.heap.size, 3, none⟩ (.string S)) ⟨tag, true, n, S⟩ 29) (cells_one _) (by have := HMK.out; unfold maxLen; omega) (by have := HMK.out; omega) (by have := hg.size; have := HZ.out; simp; omega) ?_; intro v3 w3 own3 g3 _))
                have hSz := HS.out
                have hRel := few_next (len := l.length) hlt hlt2 HMK.out hg (gb_trans gA2 (gb_alloc _ _ _)) hown own3 g3 HM.out ⟨⟨HB.out.1, HB.out.2.1, HB.out.2.2, show S.size ≤ _ by omega⟩, show S.size ≤ 2010 by omega⟩
                clear own3 g3 hown own2 gA2 h0 h1 h2 h3 hmk hcv c0 c1 c2 c3 f3 hSz
                go_wp2
                go_roundw
                case rel => exact hRel
                case measure => simp [intOf]; omega
              · have hq' : ((k : Int) == (longer : Int) % (l.length : Int)) = false := by rw [beq_eq_false_iff_ne]; exact hq
                go_wp2_with (at_builtin; go_must (refine wpList_append_own _ rfl _ _ 22 rfl w.heap.size 29 i0 _ 4 40 Tryd.underlying22 hi hz0 hz1 hz2 rfl (by decide) _ _ _ rfl ((hown.alloc _).alloc _) ⟨wr.heap.size + 1, 0, none⟩ 1 1 (Fd.cells ⟨tag, true, n, s.extract 0 (min (s.size : Int) 2010).toNat⟩) rfl rfl (by simpa using cells_new (wr.alloc (.cells #[.int .i64 tag, .bool true, .int .u64 n, .string (s.extract 0 (min (s.size : Int) 2010).toNat)] 29)) ⟨tag, true, n, s.extract 0 (min (s.size : Int) 2010).toNat⟩ 29) (cells_one _) (by have := HMK.out; unfold maxLen; omega) (by have := HMK.out; omega) (by have := hg.size; simp; omega) ?_; intro v3 w3 own3 g3 _))
                have hRel := few_next (len := l.length) hlt hlt2 HMK.out hg (gb_trans (gb_alloc _ _ _) (gb_alloc _ _ _)) hown own3 g3 HM.out ⟨⟨HB.out.1, HB.out.2.1, HB.out.2.2, Nat.le_trans (cut_size s) (by decide)⟩, cut_size s⟩
                clear own3 g3 hown h0 h1 h2 h3
                go_wp2
                go_roundw
                case rel => exact hRel
                case measure => simp [intOf]; omega
      · go_wp2
        go_ret
        exact ⟨_, m, rfl, Fs.of_owns hown, by have := HMK.out; omega, HM.out, hg⟩
    · go_wp2
      go_ret
      exact ⟨_, m, rfl, Fs.of_owns hown, by have := HMK.out; omega, HM.out, hg⟩
end Go.Proofs.YtcifabichcjjjaaDoor
