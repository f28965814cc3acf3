/-
  What the document's Read answers, over this seat's translation: P2.2's answer; condition: the text has at most a million bytes.
-/
import Derived.Test.YteolinaiigopdaaDoorVRfx
import Derived.Deep.LoopGhost
namespace Go.Proofs.YteolinaiigopdaaDoor
open Go.RowKit

/-- What the document's Read answers. -/
def RReadGot (w : World) (s : List UInt8) (e : Ending) (w' : World) : Prop :=
  w.grownBy w' none ∧ match readS s with
    | .ok l => ∃ v, e = .returned (.tuple #[v, .agg #[.int .i64 0, .int .i64 0]]) ∧ Fs w' v l
    | .error (c, p) => e = .returned (.tuple #[.slice none 0 0, .agg #[.int .i64 c, .int .i64 p]])
/-- What holds at each round's head. -/
def RRdRel (w : World) (s : ByteArray) (g : Nat) (v4 v5 v6 : Value) (wr : World) : Prop :=
  ∃ (fs : List Fd) (p : Nat), s.size - p = g ∧ p ≤ s.size ∧ wr.ownsRow (w.heap.size + 1) 29 4 v4 fs.length (fcells fs) ∧ v5 = .int .i64 p ∧ v6 = .int .i64 (lastT fs) ∧ Blk wr w.heap.size 45 #[.int .i64 0, .int .i64 0] ∧ w.grownBy wr none ∧
    readS s.data.toList = readGo s.size (s.data.toList.drop p).length fs (s.data.toList.drop p) ∧ fs.length ≤ p ∧ w.heap.size + 1 ≤ wr.heap.size
theorem suffix_of (s : ByteArray) (p : Nat) (hp : p < s.size) (l : List Fd) (f : Fd) (r' : List UInt8) (h : fieldR s[p] (s.data.toList.drop (p + 1)) l = .ok (f, r')) : r' = s.data.toList.drop (s.size - r'.length) ∧ p < s.size - r'.length ∧ s.size - r'.length ≤ s.size := by
  have h1 := (fieldB_fieldR h).1
  rw [← drop_cons s p hp] at h1
  have h2 := congrArg List.length h1
  rw [drop_len, List.length_append] at h2
  obtain ⟨c, b, hb⟩ := fieldB_cons f
  have h3 : 0 < (fieldB f).length := by rw [hb]; simp
  refine ⟨?_, by omega, by omega⟩
  have h4 : s.size - r'.length = p + (fieldB f).length := by omega
  rw [h4, ← List.drop_drop, h1, List.drop_append_of_le_length (Nat.le_refl _), List.drop_length]; rfl

set_option maxRecDepth 100000 in
set_option maxHeartbeats 2000000 in
theorem ref_read (s : ByteArray) (w : World) (hs : s.size ≤ 1000000) :
    Calls Tryd.prog 16 #[.string s] w (RReadGot w s.data.toList) := by
  go_enter Tryd.func16, Tryd.ntmps16
  go_wp2
  go_loopg [4, 5, 6, 7, 8, 9] s.size (fun g v4 v5 v6 _ _ _ wr => RRdRel w s g v4 v5 v6 wr)
  case atStart => exact ⟨[], 0, by omega, by omega, World.ownsRow_nil _ _ _ _, rfl, rfl, Blk.mk _ _ _, gb_alloc _ _ _, by simp [readS], by simp, by simp⟩
  case round =>
    obtain ⟨fs, p, hgk, hp, hown, rfl, rfl, kb, hg, hR, hlen, hz⟩ := hrel
    subst hgk
    have HR := Lib.hid hR
    clear hR
    have b0 := Blk.cell kb 0 rfl
    have b1 := Blk.cell kb 1 rfl
    have r0 := Blk.free kb 0
    have r1 := Blk.free kb 1
    obtain ⟨ao, cp, hv4, _, _, _⟩ := Fs.of_owns hown
    subst hv4
    by_cases hlt : p < s.size
    · have hdc := drop_cons s p hlt
      by_cases h32 : fs.length = 32
      · have h32' : ((fs.length : Int) == 32) = true := by rw [beq_iff_eq]; omega
        have hf : fieldR s[p] (s.data.toList.drop (p + 1)) fs = .error 4 := by
          unfold fieldR
          rw [headR, if_pos h32]; rfl
        have he := readGo_err (all := s.size) hf
        rw [← hdc] at he
        have HE := Lib.hid he
        clear hf he hdc h32
        go_wp2
        refine bodyPost_ret (v := .tuple #[.slice none 0 0, .agg #[.int .i64 4, .int .i64 p]]) (by simp [results, Tryd.results16, go_sem, b0, b1]) rfl ⟨?_, ?_⟩
        · exact gb_step (gb_step hg (gb_set _ _ _ _ _) (Nat.le_refl _)) (gb_set _ _ _ _ _) (Nat.le_refl _)
        · rw [HR.out, HE.out, drop_len, show s.size - (s.size - (p + 1) + 1) = p by omega]; rfl
      · have h32' : ((fs.length : Int) == 32) = false := by rw [beq_eq_false_iff_ne]; omega
        go_wp2_with fail
        refine (rfield_any s p fs _ hlt hs h32).mono ?_
        intro e w1 h1
        cases hf : fieldR s[p] (s.data.toList.drop (p + 1)) fs with
        | error c =>
          rw [hf] at h1
          obtain ⟨nx, rfl, g1⟩ := h1
          have hne := fieldR_ne hf
          have hne' : ((c : Int) != 0) = true := by rw [bne_iff_ne]; omega
          have he := readGo_err (all := s.size) hf
          rw [← hdc] at he
          have HE := Lib.hid he
          clear hf he hdc h32 b0 b1 r0 r1
          have kb1 := kb.keep0 g1
          have b0 := Blk.cell kb1 0 rfl
          have b1 := Blk.cell kb1 1 rfl
          have r0 := Blk.free kb1 0
          have r1 := Blk.free kb1 1
          have hkl := Blk.lt kb1
          go_wp2
          refine bodyPost_ret (v := .tuple #[.slice none 0 0, .agg #[.int .i64 c, .int .i64 p]]) (by simp [results, Tryd.results16, go_sem, b0, b1, hkl]) rfl ⟨?_, ?_⟩
          · first | exact gb_trans (gb_step (gb_step (gb_trans hg g1) (gb_set _ _ _ _ _) (Nat.le_refl _)) (gb_set _ _ _ _ _) (Nat.le_refl _)) (gb_alloc _ _ _) | exact gb_step (gb_step (gb_trans (gb_trans hg g1) (gb_alloc _ _ _)) (gb_set _ _ _ _ _) (Nat.le_refl _)) (gb_set _ _ _ _ _) (Nat.le_refl _)
          · rw [HR.out, HE.out, drop_len, show s.size - (s.size - (p + 1) + 1) = p by omega]
        | ok pr =>
          obtain ⟨f, r'⟩ := pr
          rw [hf] at h1
          obtain ⟨rfl, g1⟩ := h1
          obtain ⟨hs1, hs2, hs3⟩ := suffix_of s p hlt fs f r' hf
          have he := readGo_ok (all := s.size) hf
          rw [← hdc] at he
          have HE := Lib.hid he
          obtain ⟨p2, hp2⟩ : ∃ p2, p2 = s.size - r'.length := ⟨_, rfl⟩
          rw [← hp2] at hs1 hs2 hs3 ⊢
          have HS1 := Lib.hid hs1
          clear hf he hdc h32 hs1 hp2
          have hg1 := gb_trans hg g1
          have own1 := hown.kept g1 (by cases hv : (Value.slice ao fs.length cp).ownBlock <;> simp)
          have kb1 := kb.keep0 g1
          obtain ⟨i0, hi, hz0, hz1, hz2⟩ := info_parts Tryd.infoF
          have hz' : w.heap.size + 1 ≤ w1.heap.size := Nat.le_trans hz g1.size
          go_wp2_with (at_builtin; go_must (refine wpList_append_own _ rfl _ _ 22 rfl (w.heap.size + 1) 29 i0 _ 4 40 Tryd.underlying22 hi hz0 hz1 hz2 rfl (by decide) _ _ _ rfl ((own1.alloc _).alloc _) ⟨w1.heap.size + 1, 0, none⟩ 1 1 f.cells rfl rfl (by simpa using cells_new (w1.alloc (.cells #[.int .i64 f.tag, .bool f.text, .int .u64 f.n, .string f.s] 29)) f 29) (cells_one f) (by unfold maxLen; omega) (by omega) (by simp; omega) ?_; intro v3 w3 own3 g3 _; have kf := ((Blk.mk w1 29 #[.int .i64 f.tag, .bool f.text, .int .u64 f.n, .string f.s]).keep0 (gb_alloc _ _ none)).keep g3 (by intro e; have := (own1.lt _ e.symm).2; omega); have cf := Blk.cell kf 0 rfl))
          have gA := gb_trans (gb_alloc w1 (.cells #[.int .i64 f.tag, .bool f.text, .int .u64 f.n, .string f.s] 29) none) (gb_alloc _ (.cells #[.int .i64 f.tag, .bool f.text, .int .u64 f.n, .string f.s] 29) none)
          have hRel : RRdRel w s (s.size - p2) v3 (.int .i64 p2) (.int .i64 f.tag) w3 := by
            refine ⟨fs ++ [f], p2, rfl, hs3, owns_cast own3 (by simp) (by rw [fcells_append]; rfl), rfl, by rw [lastT_snoc], (kb1.keep0 gA).keep g3 ?_, gb_own2 (gb_trans hg1 gA) (own1.kept gA (by cases hv : (Value.slice ao fs.length cp).ownBlock <;> simp)) (by omega) g3, ?_, by simp; omega, ?_⟩
            · intro e
              have := (own1.lt _ e.symm).1
              omega
            · rw [HR.out, HE.out, ← HS1.out]
            · have := gA.size
              have := g3.size
              omega
          clear own3 g3 gA own1 kb1 hg1 g1 kb hg hown HE HR
          go_roundg (s.size - p2)
          case rel => exact hRel
          all_goals omega
    · obtain rfl : p = s.size := by omega
      go_wp2
      refine bodyPost_ret (v := .tuple #[.slice ao fs.length cp, .agg #[.int .i64 0, .int .i64 0]]) (by simp [results, Tryd.results16, go_sem, b0, b1]) rfl ⟨?_, ?_⟩
      · exact gb_step (gb_step hg (gb_set _ _ _ _ _) (Nat.le_refl _)) (gb_set _ _ _ _ _) (Nat.le_refl _)
      · have hn : s.data.toList.drop s.size = [] := List.drop_of_length_le (by simp)
        rw [HR.out, hn, readGo_nil]
        have hF := Fs.of_owns hown
        refine ⟨_, rfl, ?_⟩
        obtain ⟨ao', cp', hv, h1, h2, h3⟩ := hF
        injection hv with e1 e2 e3
        subst e1; subst e3
        have gS := gb_trans (gb_set wr w.heap.size 0 none (.int .i64 0)) (gb_set (wr.setCell ⟨w.heap.size, 0, none⟩ (.int .i64 0)) w.heap.size 1 none (.int .i64 0))
        refine ⟨ao, cp, rfl, h1, h2, fun a e j u hj => gS.cell (h3 a e j u hj) ?_⟩
        subst e
        intro e
        have := (hown.lt a.block rfl).1
        rw [add_block] at e
        injection e with e
        omega
end Go.Proofs.YteolinaiigopdaaDoor
