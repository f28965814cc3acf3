/-
  What bestCut of package node answers, at cells and keys, over this seat's translation: a cut of which the longer part is shortest, or 0, if there is none; conditions: as many items as a machine's numbers tell, their bytes likewise.
-/
import Derived.Test.YthhimhjegodklaaGreatNe
namespace Go.Proofs.YthhimhjegodklaaGreat.N11
set_option linter.unusedSimpArgs false
set_option linter.unusedVariables false
open Go.RowKit
/-- The longer part of a cut at m. -/
def mxF {α : Type} (f : α → Nat) (gap : Nat) (l : List α) (m : Nat) : Nat := max (sumF f (l.take m)) (sumF f (l.drop (m + gap)))
def Best {α : Type} (f : α → Nat) (gap : Nat) (l : List α) (r : Nat) : Prop :=
  (r = 0 ∧ l.length ≤ gap + 1) ∨ (1 ≤ r ∧ r + gap < l.length ∧ ∀ m, 1 ≤ m → m + gap < l.length → mxF f gap l r ≤ mxF f gap l m)
def BestGot {α : Type} (f : α → Nat) (gap : Nat) (l : List α) (w : World) (e : Ending) (w' : World) : Prop :=
  ∃ r : Nat, e = .returned (.int .i64 r) ∧ Best f gap l r ∧ w.grownBy w' none
def BI {α : Type} (f : α → Nat) (gap : Nat) (l : List α) (j bs : Nat) (L : Int) : Prop :=
  (bs = 0 ∧ j = 0 ∧ L = 9223372036854775807) ∨ (1 ≤ bs ∧ bs ≤ j ∧ j + gap < l.length ∧ L = (mxF f gap l bs : Nat) ∧ ∀ m, 1 ≤ m → m ≤ j → mxF f gap l bs ≤ mxF f gap l m)
theorem BI.yes {α : Type} {f : α → Nat} {gap : Nat} {l : List α} {j bs : Nat} {L : Int} (h : BI f gap l j bs L) (hj : j + 1 + gap < l.length) (hM : ((mxF f gap l (j + 1) : Nat) : Int) < L) : BI f gap l (j + 1) (j + 1) (mxF f gap l (j + 1) : Nat) := by
  refine .inr ⟨by omega, Nat.le_refl _, hj, rfl, fun m h1 h2 => ?_⟩
  rcases Nat.lt_or_ge j m with h3 | h3
  · have : m = j + 1 := by omega
    rw [this]; exact Nat.le_refl _
  · rcases h with ⟨_, h0, _⟩ | ⟨_, _, _, hL, hm⟩
    · omega
    · have := hm m h1 h3
      rw [hL] at hM; omega
theorem BI.no {α : Type} {f : α → Nat} {gap : Nat} {l : List α} {j bs : Nat} {L : Int} (h : BI f gap l j bs L) (hj : j + 1 + gap < l.length) (hb : mxF f gap l (j + 1) ≤ 1000000000000000000) (hM : ¬ ((mxF f gap l (j + 1) : Nat) : Int) < L) : BI f gap l (j + 1) bs L := by
  rcases h with ⟨_, _, hL⟩ | ⟨h1, h2, h3, hL, hm⟩
  · omega
  · refine .inr ⟨h1, by omega, hj, hL, fun m h4 h5 => ?_⟩
    rcases Nat.lt_or_ge j m with h6 | h6
    · have : m = j + 1 := by omega
      rw [this]; rw [hL] at hM; omega
    · exact hm m h4 h6
theorem BI.done {α : Type} {f : α → Nat} {gap : Nat} {l : List α} {j bs : Nat} {L : Int} (h : BI f gap l j bs L) (hj : ¬ j + 1 + gap < l.length) : Best f gap l bs := by
  rcases h with ⟨h1, h2, _⟩ | ⟨h1, h2, h3, hL, hm⟩
  · exact .inl ⟨h1, by omega⟩
  · exact .inr ⟨h1, by omega, fun m h4 h5 => hm m h4 (by omega)⟩
theorem max_lt {a b : Nat} (h : a < b) : max a b = b := Nat.max_eq_right (Nat.le_of_lt h)
theorem max_ge {a b : Nat} (h : ¬ a < b) : max a b = a := Nat.max_eq_left (Nat.le_of_not_lt h)
set_option maxRecDepth 100000 in
set_option maxHeartbeats 1000000 in
theorem bestCut_C (v : Value) (l : List Ce) (w : World) (hv : Ces w v l) (hl : l.length ≤ 1000000000000000000) (hs : sumF cellSz l ≤ 1000000000000000000) (hz : ∀ x ∈ l, x.key.size ≤ 1000000000000000000 ∧ x.val.size ≤ 1000000000000000000) :
    Calls Tryz.prog 96 #[v, .int .i64 0, .func (.func 97) #[] #[]] w (BestGot cellSz 0 l w) := by
  have HS : Hid (∀ x ∈ l, ∀ W, Calls Tryz.prog 97 #[.agg #[.string x.key, .string x.val, .int .i64 x.fi, .int .i64 x.lo]] W fun e w2 => e = .returned (.int .i64 (cellSz x : Nat)) ∧ W.grownBy w2 none) := Lib.hid (fun x hx W => by
    have h := hz x hx
    exact cellSize_any x.key x.val x.fi x.lo W h.1 h.2)
  obtain ⟨ao, cap, rfl, hcap, hlen, hnil, hcell⟩ := hv
  have HH := Lib.hid hcell
  have HN := Lib.hid hnil
  have hcut := cut_C (a := 0) (b := l.length) (m := cap) (show Ces w (.slice ao l.length cap) l from ⟨ao, cap, rfl, hcap, hlen, hnil, hcell⟩) (by omega) (Nat.le_refl _) hcap (Nat.le_refl _)
  have hrun : ∀ W, (Instr.sliceAt 22 (.slice ao l.length cap) (some (.int .i64 0)) none none).run Tryz.prog W = .ok (.slice (cutA ao 0 cap 4) (l.length - 0) (cap - 0)) W := from_C ao l.length cap 0 (by omega)
  have HT := Lib.hid (total_C _ ((l.drop 0).take (l.length - 0)) w hcut (by rw [part_len _ (Nat.le_refl _)]; omega) (by
    have h2 := sumF_append cellSz (l.take 0) (l.drop 0)
    rw [List.take_append_drop] at h2
    rw [List.take_of_length_le (by rw [List.length_drop]; omega)]; omega) (fun x hx => hz x (List.mem_of_mem_drop (List.mem_of_mem_take hx))))
  rw [List.take_of_length_le (by rw [List.length_drop]; omega)] at HT
  clear hcell hnil hlen hz hcut
  generalize cutA ao 0 cap 4 = ao' at hrun HT
  generalize l.length - 0 = nn at hrun HT
  generalize cap - 0 = cc at hrun HT
  go_enter Tryz.func96, Tryz.ntmps96
  go_wp2_with (go_at_call 107; (with_reducible refine HT.out.mono ?_); rintro e w0 ⟨rfl, g0⟩)
  clear hrun
  go_loopw [7, 8, 9, 10, 11] (fun b least f s i wr => ∃ (j bs : Nat) (L : Int), i = .int .i64 ((j : Int) + 1) ∧ b = .int .i64 bs ∧ least = .int .i64 L ∧ f = .int .i64 (sumF cellSz (l.take j) : Nat) ∧ s = .int .i64 (sumF cellSz (l.drop (j + 0)) : Nat) ∧ j + 0 ≤ l.length ∧ Hid (BI cellSz 0 l j bs L) ∧ w.grownBy wr none) (fun _ _ _ _ i _ => l.length + 1 - (intOf i).toNat)
  case atStart => exact ⟨0, 0, 9223372036854775807, rfl, rfl, rfl, rfl, by first | rfl | simp, by omega, Lib.hid (.inl ⟨rfl, rfl, rfl⟩), g0⟩
  case round =>
    obtain ⟨j, bs, L, rfl, rfl, rfl, rfl, rfl, hj, hp, gr⟩ := hrel
    by_cases hlt : j + 1 + 0 < l.length
    · have hlt' : (j : Int) + 1  < (l.length : Int) := by omega
      obtain ⟨x, hx⟩ : ∃ x, l[j]? = some x := ⟨_, List.getElem?_eq_getElem (by omega)⟩
      obtain ⟨y, hy⟩ : ∃ y, l[j]? = some y := ⟨_, List.getElem?_eq_getElem (by omega)⟩
      cases ao with
      | none => have := (HN.out rfl).1; omega
      | some a =>
        obtain ⟨c0, c1, c2, c3⟩ := cat_of (fun j u h => gr.cell (HH.out _ rfl j u h) (by simp)) hx
        have hxy : x = y := Option.some.inj (hx.symm.trans hy)
        subst hxy
        have HX := Lib.hid (HS.out x (List.mem_of_getElem? hx))
        
        have e1 := sumF_take cellSz l j x hx
        have e2 := sumF_drop cellSz l j x hy
        have hle : sumF cellSz (l.take j) ≤ 1000000000000000000 ∧ sumF cellSz (l.drop j) ≤ 1000000000000000000 ∧ sumF cellSz (l.take (j + 1)) ≤ 1000000000000000000 := by
          have h1 := sumF_append cellSz (l.take j) (l.drop j)
          have h2 := sumF_append cellSz (l.take j) (l.drop j)
          have h3 := sumF_append cellSz (l.take (j + 1)) (l.drop (j + 1))
          rw [List.take_append_drop] at h1 h2 h3
          omega
        obtain ⟨hle1, hle2, hle3⟩ := hle
        have HM : Hid (mxF cellSz 0 l (j + 1) = max (sumF cellSz (l.take (j + 1))) (sumF cellSz (l.drop (j + 1)))) := Lib.hid rfl
        have w1 : IntKind.i64.wrap (j : Int) = (j : Int) := IntWalk.i64_in _ (by omega)
        have hz0 : (0 : Int) ≤ (j : Int) + 1 := by omega
        have hj1 : (j : Int) < (l.length : Int) := by omega
        have E1 := Lib.hid e1
        have E2 := Lib.hid e2
        rw [e1] at hle3
        show Code.wp _ _ _ _ _
        simp only [Nat.add_zero]
        rw [e2] at hle2 ⊢
        clear hx hy e1 e2
        obtain ⟨s2, hs2⟩ : ∃ s2, sumF cellSz (l.drop (j + 1)) = s2 := ⟨_, rfl⟩
        rw [hs2] at HM hle2 E2 ⊢
        have H2 := Lib.hid hs2
        clear hs2
        generalize sumF cellSz (l.take j) = s1 at hle1 hle3 E1 ⊢
        generalize cellSz x = fx at HX hle1 hle2 hle3 E1 E2 ⊢
        
        have t1 : IntKind.i64.wrap ((s1 : Int) + fx) = (s1 : Int) + fx := IntWalk.i64_in _ (by omega)
        by_cases hb : max ((s1 : Int) + fx) (s2 : Int) < L
        · go_wp2_with (go_at_call 97; first | ((with_reducible refine (HX.out _).mono ?_); rintro e w1 ⟨rfl, g1⟩; replace c0 := g1.cell c0 (by simp); replace c1 := g1.cell c1 (by simp); replace c2 := g1.cell c2 (by simp); replace c3 := g1.cell c3 (by simp); replace gr := gb_trans gr g1; clear g1))
          go_roundw
          case rel => exact ⟨j + 1, j + 1, _, by go_num, by go_num, rfl, by rw [E1.out]; go_num, by rw [H2.out]; congr 1; omega, by omega, Lib.hid (by
            have h := BI.yes hp.out hlt (by rw [HM.out, E1.out]; omega)
            rw [HM.out, E1.out] at h
            rw [show max ((s1 : Int) + fx) ((fx : Int) + s2 - fx) = ((max (s1 + fx) s2 : Nat) : Int) by omega]; exact h), gr⟩
          case measure => simp [intOf]; omega
        · go_wp2_with (go_at_call 97; first | ((with_reducible refine (HX.out _).mono ?_); rintro e w1 ⟨rfl, g1⟩; replace c0 := g1.cell c0 (by simp); replace c1 := g1.cell c1 (by simp); replace c2 := g1.cell c2 (by simp); replace c3 := g1.cell c3 (by simp); replace gr := gb_trans gr g1; clear g1))
          go_roundw
          case rel => exact ⟨j + 1, bs, L, by go_num, rfl, rfl, by rw [E1.out]; go_num, by rw [H2.out]; congr 1; omega, by omega, Lib.hid (BI.no hp.out hlt (by rw [HM.out, E1.out]; omega) (by rw [HM.out, E1.out]; omega)), gr⟩
          case measure => simp [intOf]; omega
    · have hlt' : ¬ (j : Int) + 1  < (l.length : Int) := by omega
      go_wp2
      go_ret
      exact ⟨bs, rfl, BI.done hp.out hlt, gr⟩
set_option maxRecDepth 100000 in
set_option maxHeartbeats 1000000 in
theorem bestCut_S (v : Value) (l : List ByteArray) (w : World) (hv : Sts w v l) (hl : l.length ≤ 1000000000000000000) (hn : 1 ≤ l.length) (hs : sumF keySz l ≤ 1000000000000000000) (hz : ∀ x ∈ l, x.size ≤ 1000000000000000000) :
    Calls Tryz.prog 119 #[v, .int .i64 1, .func (.func 120) #[] #[]] w (BestGot keySz 1 l w) := by
  have HS : Hid (∀ x ∈ l, ∀ W, Calls Tryz.prog 120 #[.string x] W fun e w2 => e = .returned (.int .i64 (keySz x : Nat)) ∧ W = w2) := Lib.hid (fun x hx W => by
    have h := hz x hx
    exact keySize_any x W h)
  obtain ⟨ao, cap, rfl, hcap, hlen, hnil, hcell⟩ := hv
  have HH := Lib.hid hcell
  have HN := Lib.hid hnil
  have hcut := cut_S (a := 1) (b := l.length) (m := cap) (show Sts w (.slice ao l.length cap) l from ⟨ao, cap, rfl, hcap, hlen, hnil, hcell⟩) (by omega) (Nat.le_refl _) hcap (Nat.le_refl _)
  have hrun : ∀ W, (Instr.sliceAt 23 (.slice ao l.length cap) (some (.int .i64 1)) none none).run Tryz.prog W = .ok (.slice (cutA ao 1 cap 1) (l.length - 1) (cap - 1)) W := from_S ao l.length cap 1 (by omega)
  have HT := Lib.hid (total_S _ ((l.drop 1).take (l.length - 1)) w hcut (by rw [part_len _ (Nat.le_refl _)]; omega) (by
    have h2 := sumF_append keySz (l.take 1) (l.drop 1)
    rw [List.take_append_drop] at h2
    rw [List.take_of_length_le (by rw [List.length_drop]; omega)]; omega) (fun x hx => hz x (List.mem_of_mem_drop (List.mem_of_mem_take hx))))
  rw [List.take_of_length_le (by rw [List.length_drop]; omega)] at HT
  clear hcell hnil hlen hz hcut
  generalize cutA ao 1 cap 1 = ao' at hrun HT
  generalize l.length - 1 = nn at hrun HT
  generalize cap - 1 = cc at hrun HT
  go_enter Tryz.func119, Tryz.ntmps119
  go_wp2_with (go_at_call 129; (with_reducible refine HT.out.mono ?_); rintro e w0 ⟨rfl, g0⟩)
  clear hrun
  go_loopw [7, 8, 9, 10, 11] (fun b least f s i wr => ∃ (j bs : Nat) (L : Int), i = .int .i64 ((j : Int) + 1) ∧ b = .int .i64 bs ∧ least = .int .i64 L ∧ f = .int .i64 (sumF keySz (l.take j) : Nat) ∧ s = .int .i64 (sumF keySz (l.drop (j + 1)) : Nat) ∧ j + 1 ≤ l.length ∧ Hid (BI keySz 1 l j bs L) ∧ w.grownBy wr none) (fun _ _ _ _ i _ => l.length + 1 - (intOf i).toNat)
  case atStart => exact ⟨0, 0, 9223372036854775807, rfl, rfl, rfl, rfl, by first | rfl | simp, by omega, Lib.hid (.inl ⟨rfl, rfl, rfl⟩), g0⟩
  case round =>
    obtain ⟨j, bs, L, rfl, rfl, rfl, rfl, rfl, hj, hp, gr⟩ := hrel
    by_cases hlt : j + 1 + 1 < l.length
    · have hlt' : (j : Int) + 1 + 1 < (l.length : Int) := by omega
      obtain ⟨x, hx⟩ : ∃ x, l[j]? = some x := ⟨_, List.getElem?_eq_getElem (by omega)⟩
      obtain ⟨y, hy⟩ : ∃ y, l[(j + 1)]? = some y := ⟨_, List.getElem?_eq_getElem (by omega)⟩
      cases ao with
      | none => have := (HN.out rfl).1; omega
      | some a =>
        have c0 := gr.cell (HH.out _ rfl j _ (show _ = some (.string x) by simp [strsC, hx])) (by simp)
        have e0 := gr.cell (HH.out _ rfl (j + 1) _ (show _ = some (.string y) by simp [strsC, hy])) (by simp)
        replace e0 : wr.cell? ⟨a.block, a.off + (j + 1), none⟩ = some (.string y) := e0
        have HX := Lib.hid (HS.out x (List.mem_of_getElem? hx))
        have HY := Lib.hid (HS.out y (List.mem_of_getElem? hy))
        have e1 := sumF_take keySz l j x hx
        have e2 := sumF_drop keySz l (j + 1) y hy
        have hle : sumF keySz (l.take j) ≤ 1000000000000000000 ∧ sumF keySz (l.drop (j + 1)) ≤ 1000000000000000000 ∧ sumF keySz (l.take (j + 1)) ≤ 1000000000000000000 := by
          have h1 := sumF_append keySz (l.take j) (l.drop j)
          have h2 := sumF_append keySz (l.take (j + 1)) (l.drop (j + 1))
          have h3 := sumF_append keySz (l.take (j + 1)) (l.drop (j + 1))
          rw [List.take_append_drop] at h1 h2 h3
          omega
        obtain ⟨hle1, hle2, hle3⟩ := hle
        have HM : Hid (mxF keySz 1 l (j + 1) = max (sumF keySz (l.take (j + 1))) (sumF keySz (l.drop ((j + 1) + 1)))) := Lib.hid rfl
        have w1 : IntKind.i64.wrap (j : Int) = (j : Int) := IntWalk.i64_in _ (by omega)
        have hz0 : (0 : Int) ≤ (j : Int) + 1 := by omega
        have hj1 : (j : Int) < (l.length : Int) := by omega
        have E1 := Lib.hid e1
        have E2 := Lib.hid e2
        rw [e1] at hle3
        show Code.wp _ _ _ _ _
        rw [show j + 1 = j + 1 from rfl] at e2
        rw [e2] at hle2 ⊢
        clear hx hy e1 e2
        obtain ⟨s2, hs2⟩ : ∃ s2, sumF keySz (l.drop ((j + 1) + 1)) = s2 := ⟨_, rfl⟩
        rw [hs2] at HM hle2 E2 ⊢
        have H2 := Lib.hid hs2
        clear hs2
        generalize sumF keySz (l.take j) = s1 at hle1 hle3 E1 ⊢
        generalize keySz x = fx at HX hle1 hle2 hle3 E1 E2 ⊢
        generalize keySz y = fy at HY hle2 E2 ⊢
        have t1 : IntKind.i64.wrap ((s1 : Int) + fx) = (s1 : Int) + fx := IntWalk.i64_in _ (by omega)
        by_cases hb : max ((s1 : Int) + fx) (s2 : Int) < L
        · go_wp2_with (go_at_call 120; first | ((with_reducible refine (HX.out _).mono ?_); rintro e w1 ⟨rfl, rfl⟩) | ((with_reducible refine (HY.out _).mono ?_); rintro e w1 ⟨rfl, rfl⟩))
          go_roundw
          case rel => exact ⟨j + 1, j + 1, _, by go_num, by go_num, rfl, by rw [E1.out]; go_num, by rw [H2.out]; congr 1; omega, by omega, Lib.hid (by
            have h := BI.yes hp.out hlt (by rw [HM.out, E1.out]; omega)
            rw [HM.out, E1.out] at h
            rw [show max ((s1 : Int) + fx) ((fy : Int) + s2 - fy) = ((max (s1 + fx) s2 : Nat) : Int) by omega]; exact h), gr⟩
          case measure => simp [intOf]; omega
        · go_wp2_with (go_at_call 120; first | ((with_reducible refine (HX.out _).mono ?_); rintro e w1 ⟨rfl, rfl⟩) | ((with_reducible refine (HY.out _).mono ?_); rintro e w1 ⟨rfl, rfl⟩))
          go_roundw
          case rel => exact ⟨j + 1, bs, L, by go_num, rfl, rfl, by rw [E1.out]; go_num, by rw [H2.out]; congr 1; omega, by omega, Lib.hid (BI.no hp.out hlt (by rw [HM.out, E1.out]; omega) (by rw [HM.out, E1.out]; omega)), gr⟩
          case measure => simp [intOf]; omega
    · have hlt' : ¬ (j : Int) + 1 + 1 < (l.length : Int) := by omega
      go_wp2
      go_ret
      exact ⟨bs, rfl, BI.done hp.out hlt, gr⟩
end Go.Proofs.YthhimhjegodklaaGreat.N11

