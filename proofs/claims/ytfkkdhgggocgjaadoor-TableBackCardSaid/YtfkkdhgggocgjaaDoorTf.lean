/-
  The document's own table (foyerref09): what Set, Drop, Clean, Lowest, Sectors, Dirty and Copy answer and leave, and the program's Copy, over this seat's translation; conditions: the table's block is there.
-/
import Derived.Test.YtfkkdhgggocgjaaDoorTe
import Derived.Deep.WholeRow
namespace Go.Proofs.YtfkkdhgggocgjaaDoor
open Go.RowKit

/-- What a Set leaves of the document's table. -/
def RSetGot (w : World) (p : Nat) (s : TB) (i v : Int) (e : Ending) (w' : World) : Prop := e = .returned (.int .i64 (setE i v)) ∧ RT w' p (setF s i v) ∧ w.grownBy w' (some p)
set_option maxRecDepth 100000 in
set_option maxHeartbeats 400000 in
theorem rset_any (p : Nat) (s : TB) (i v : Int) (w : World) (h : RT w p s) : Calls Tryd.prog 9 #[.pointer (some ⟨p, 0, none⟩), .int .i64 i, .int .i64 v] w (RSetGot w p s i v) := by
  unfold RSetGot
  by_cases hi : IsPage i
  · by_cases hv : IsSect v
    · have he : setE i v = 0 := if_pos ⟨hi, hv⟩
      have hs : setF s i v = putF s (i - 1).toNat v.toNat := if_pos ⟨hi, hv⟩
      rw [he, hs]
      have HI := Lib.hid hi
      obtain ⟨k, rfl, hk⟩ : ∃ k : Nat, i = (k : Int) + 1 ∧ k < 960 := ⟨(i - 1).toNat, by unfold IsPage at hi; omega, by unfold IsPage at hi; omega⟩
      obtain ⟨n, rfl, hn⟩ : ∃ n : Nat, v = (n : Int) ∧ n < 1024 := ⟨v.toNat, by unfold IsSect at hv; omega, by unfold IsSect at hv; omega⟩
      have hk1 : ((k : Int) + 1 - 1).toNat = k := by omega
      rw [hk1, Int.toNat_natCast]
      have HP := Lib.hid (rput_any p s k n w h hk hn)
      have h2 : ¬ (n : Int) < 2 := by unfold IsSect at hv; omega
      have h3 : ¬ (1024 : Int) ≤ (n : Int) := by omega
      clear hi hv h he hs hk1
      go_enter Tryd.func9, Tryd.ntmps9
      go_wp2_with (first
        | (go_at_call 32; (with_reducible refine (rpage_is _ (decide_eq_true HI.out)).mono ?_); rintro e w' ⟨rfl, rfl⟩)
        | (go_at_call 33; (with_reducible refine HP.out.mono ?_); rintro e w' ⟨rfl, h1, g1⟩))
      go_ret
      exact ⟨rfl, h1, g1⟩
    · have he : setE i v = 2 := if_neg (fun x => hv x.2)
      have hs : setF s i v = s := if_neg (fun x => hv x.2)
      rw [he, hs]
      have HI := Lib.hid hi
      have HP := Lib.hid h
      by_cases h2 : v < 2
      · clear hi hv h he hs
        go_enter Tryd.func9, Tryd.ntmps9
        go_wp2_with (go_at_call 32; (with_reducible refine (rpage_is _ (decide_eq_true HI.out)).mono ?_); rintro e w' ⟨rfl, rfl⟩)
        go_ret
        exact ⟨rfl, HP.out, gb_refl _ _⟩
      · have h3 : (1024 : Int) ≤ v := by unfold IsSect at hv; omega
        clear hi hv h he hs
        go_enter Tryd.func9, Tryd.ntmps9
        go_wp2_with (go_at_call 32; (with_reducible refine (rpage_is _ (decide_eq_true HI.out)).mono ?_); rintro e w' ⟨rfl, rfl⟩)
        go_ret
        exact ⟨rfl, HP.out, gb_refl _ _⟩
  · have he : setE i v = 2 := if_neg (fun x => hi x.1)
    have hs : setF s i v = s := if_neg (fun x => hi x.1)
    rw [he, hs]
    have HI := Lib.hid hi
    have HP := Lib.hid h
    clear hi h he hs
    go_enter Tryd.func9, Tryd.ntmps9
    go_wp2_with (go_at_call 32; (with_reducible refine (rpage_is _ (decide_eq_false HI.out)).mono ?_); rintro e w' ⟨rfl, rfl⟩)
    go_ret
    exact ⟨rfl, HP.out, gb_refl _ _⟩
/-- What a Drop leaves of the document's table. -/
def RDropGot (w : World) (p : Nat) (s : TB) (i : Int) (e : Ending) (w' : World) : Prop := e = .returned (.int .i64 (dropE s i)) ∧ RT w' p (dropF s i) ∧ w.grownBy w' (some p)
set_option maxRecDepth 100000 in
set_option maxHeartbeats 400000 in
theorem rdrop_any (p : Nat) (s : TB) (i : Int) (w : World) (h : RT w p s) : Calls Tryd.prog 11 #[.pointer (some ⟨p, 0, none⟩), .int .i64 i] w (RDropGot w p s i) := by
  unfold RDropGot
  have HG := Lib.hid (rget_any p s i w h)
  by_cases h0 : getF s i = 0
  · have he : dropE s i = 13 := if_pos h0
    have hs : dropF s i = s := if_pos h0
    rw [he, hs]
    rw [h0] at HG
    have HP := Lib.hid h
    clear h0 h he hs
    go_enter Tryd.func11, Tryd.ntmps11
    go_wp2_with (go_at_call 21; (with_reducible refine HG.out.mono ?_); rintro e w' ⟨rfl, rfl⟩)
    go_ret
    exact ⟨rfl, HP.out, gb_refl _ _⟩
  · have he : dropE s i = 0 := if_neg h0
    have hs : dropF s i = putF s (i - 1).toNat 0 := if_neg h0
    rw [he, hs]
    have hi : IsPage i := Decidable.byContradiction fun hn => h0 (getF_no hn)
    obtain ⟨k, rfl, hk⟩ : ∃ k : Nat, i = (k : Int) + 1 ∧ k < 960 := ⟨(i - 1).toNat, by unfold IsPage at hi; omega, by unfold IsPage at hi; omega⟩
    have hk1 : ((k : Int) + 1 - 1).toNat = k := by omega
    rw [hk1]
    have HP := Lib.hid (rput_any p s k 0 w h hk (by omega))
    generalize getF s ((k : Int) + 1) = u at HG h0
    have hne : ((u : Int) == 0) = false := by simp; omega
    clear h0 h he hs hi hk1
    go_enter Tryd.func11, Tryd.ntmps11
    go_wp2_with (first
      | (go_at_call 21; (with_reducible refine HG.out.mono ?_); rintro e w' ⟨rfl, rfl⟩)
      | (go_at_call 33; refine HP.out.mono ?_; rintro e w' ⟨rfl, h1, g1⟩))
    go_ret
    exact ⟨rfl, h1, g1⟩
set_option maxRecDepth 100000 in
set_option maxHeartbeats 400000 in
theorem rlowest_any (p : Nat) (s : TB) (w : World) (h : RT w p s) : Calls Tryd.prog 39 #[.pointer (some ⟨p, 0, none⟩)] w (LowGot w s.P) := by
  have HF := Lib.hid h.fit
  have HC := Lib.hid (fun k hk => h.page (k := k) hk)
  clear h
  go_enter Tryd.func39, Tryd.ntmps39
  go_wp2
  go_loopw [4] (fun i wr => ∃ k : Nat, k ≤ 960 ∧ i = .int .i64 ((k : Int) + 1) ∧ Hid (∀ j, j < k → s.P.getD j 0 ≠ 0) ∧ w = wr) (fun i _ => 2000 - (intOf i).toNat)
  case atStart => exact ⟨0, by omega, rfl, Lib.hid (fun j hj => by omega), rfl⟩
  case round =>
    obtain ⟨k, hk, rfl, HN, rfl⟩ := hrel
    by_cases hlt : k < 960
    · have hc := HC.out k hlt
      have hto : ((k : Int) + 1).toNat = k + 1 := by omega
      obtain ⟨x, hx⟩ : ∃ x, s.P.getD k 0 = x := ⟨_, rfl⟩
      rw [hx] at hc
      have HX := Lib.hid hx
      clear hx
      by_cases h0 : x = 0
      · subst h0
        have HL := Lib.hid (low_told (P := s.P) (k := k) (by rw [HF.out.1]; exact hlt) HX.out HN.out)
        go_wp2
        go_ret2
        exact ⟨by rw [HL.out.1, HL.out.2]; rfl, gb_refl _ _⟩
      · have hne : ((x : Int) == 0) = false := by simp; omega
        go_wp2
        go_roundw
        case rel =>
          refine ⟨k + 1, by omega, by go_num, Lib.hid (fun j hj => ?_), by simp⟩
          rcases Nat.lt_or_ge j k with h | h
          · exact HN.out j h
          · obtain rfl : j = k := by omega
            rw [HX.out]; exact h0
        case measure => simp [intOf]; omega
    · obtain rfl : k = 960 := by omega
      have HL := Lib.hid (low_full (P := s.P) (fun j hj => HN.out j (by rw [HF.out.1] at hj; exact hj)))
      go_wp2
      go_ret2
      exact ⟨by rw [HL.out.1, HL.out.2]; rfl, gb_refl _ _⟩
set_option maxRecDepth 100000 in
set_option maxHeartbeats 1000000 in
theorem rdirty_any (p : Nat) (s : TB) (w : World) (h : RT w p s) : Calls Tryd.prog 41 #[.pointer (some ⟨p, 0, none⟩)] w (NtsGot w (dirtyF s.D)) := by
  obtain ⟨i0, hi, hz0, hz1, hz2⟩ := info_parts Tryd.infoInt
  have HC := Lib.hid (fun k hk => h.dirt (k := k) hk)
  clear h
  go_enter Tryd.func41, Tryd.ntmps41
  go_wp2
  go_loopw [3, 4] (fun v i wr => ∃ k : Nat, k ≤ 8 ∧ i = .int .i64 k ∧ RowIn w (dirtyTo s.D k) v wr) (fun _ i _ => 8 - (intOf i).toNat)
  case atStart => exact ⟨0, by omega, rfl, RowIn.nil w⟩
  case round =>
    obtain ⟨k, hk, rfl, hR⟩ := hrel
    obtain ⟨ao, cap, rfl⟩ := hR.shape
    have hlen := dirtyTo_length s.D k
    by_cases hlt : k < 8
    · have hc := hR.2.cell (HC.out k hlt) (by simp)
      obtain ⟨b, hb⟩ : ∃ b, s.D.getD k false = b := ⟨_, rfl⟩
      rw [hb] at hc
      cases b
      · have hR2 : RowIn w (dirtyTo s.D (k + 1)) (.slice ao (dirtyTo s.D k).length cap) wr := by rw [dirtyTo_no hb]; exact hR
        have HR := Lib.hid hR2
        clear hR hR2 hb
        generalize dirtyTo s.D k = L at *
        go_wp2
        go_roundw
        case rel => exact ⟨k + 1, by omega, by go_num, HR.out⟩
        case measure => simp [intOf]; omega
      · have HS := Lib.hid (dirtyTo_yes hb)
        generalize dirtyTo s.D k = L at *
        have own := hR.1
        have hg := hR.2.size
        have HR := Lib.hid hR
        clear hR hb
        go_wp2_with (at_builtin; go_must (refine wpList_append_own _ rfl _ _ 53 rfl w.heap.size 3 i0 (.int .i64 0) 1 8 Tryd.underlying53 hi hz0 hz1 hz2 rfl (by decide) _ _ _ rfl (own.alloc _) ⟨wr.heap.size, 0, none⟩ 1 1 [.int .i64 (k : Nat)] rfl rfl (cell1_new _ _ _) (one_int _ _) (by unfold maxLen; omega) (by omega) (by simp; omega) ?_; intro v3 w3 own3 g3 _))
        have HQ := Lib.hid (HR.out.snoc own3 g3)
        clear own3 g3 own HR
        go_roundw
        case rel => exact ⟨k + 1, by omega, by go_num, by rw [HS.out]; exact HQ.out⟩
        case measure => simp [intOf]; omega
    · obtain rfl : k = 8 := by omega
      have HR := Lib.hid hR
      clear hR
      go_wp2
      go_ret
      exact ⟨_, rfl, HR.out.1, HR.out.2⟩
/-- The sectors of the first pages. -/
def secsTo (P : List Nat) (k : Nat) : List Nat := secsF (P.take k)
theorem secsTo_no {P : List Nat} {k : Nat} (hk : k < P.length) (h : P.getD k 0 = 0) : secsTo P (k + 1) = secsTo P k := by
  unfold secsTo secsF
  rw [List.take_add_one, List.getElem?_eq_getElem hk, List.filter_append]
  rw [List.getD_eq_getElem?_getD, List.getElem?_eq_getElem hk] at h
  have h2 : P[k] = 0 := h
  simp [h2]
theorem secsTo_yes {P : List Nat} {k : Nat} (hk : k < P.length) (h : P.getD k 0 ≠ 0) : secsTo P (k + 1) = secsTo P k ++ [P.getD k 0] := by
  unfold secsTo secsF
  rw [List.take_add_one, List.getElem?_eq_getElem hk, List.filter_append]
  rw [List.getD_eq_getElem?_getD, List.getElem?_eq_getElem hk] at h ⊢
  have h2 : P[k] ≠ 0 := h
  simp [h2]
theorem secsTo_length (P : List Nat) (k : Nat) : (secsTo P k).length ≤ k := by
  unfold secsTo secsF
  exact Nat.le_trans (List.length_filter_le _ _) (by rw [List.length_take]; omega)
set_option maxRecDepth 100000 in
set_option maxHeartbeats 1000000 in
theorem rsectors_any (p : Nat) (s : TB) (w : World) (h : RT w p s) : Calls Tryd.prog 40 #[.pointer (some ⟨p, 0, none⟩)] w (NtsGot w (secsF s.P)) := by
  obtain ⟨i0, hi, hz0, hz1, hz2⟩ := info_parts Tryd.infoInt
  have HF := Lib.hid h.fit
  have HC := Lib.hid (fun k hk => h.page (k := k) hk)
  clear h
  go_enter Tryd.func40, Tryd.ntmps40
  go_wp2
  go_loopw [3, 4] (fun v i wr => ∃ k : Nat, k ≤ 960 ∧ i = .int .i64 ((k : Int) + 1) ∧ RowIn w (secsTo s.P k) v wr) (fun _ i _ => 2000 - (intOf i).toNat)
  case atStart => exact ⟨0, by omega, rfl, RowIn.nil w⟩
  case round =>
    obtain ⟨k, hk, rfl, hR⟩ := hrel
    obtain ⟨ao, cap, rfl⟩ := hR.shape
    have hlen := secsTo_length s.P k
    by_cases hlt : k < 960
    · have hc := hR.2.cell (HC.out k hlt) (by simp)
      have hto : ((k : Int) + 1).toNat = k + 1 := by omega
      have hkl : k < s.P.length := by rw [HF.out.1]; exact hlt
      obtain ⟨x, hx⟩ : ∃ x, s.P.getD k 0 = x := ⟨_, rfl⟩
      by_cases h0 : x = 0
      · have hR2 : RowIn w (secsTo s.P (k + 1)) (.slice ao (secsTo s.P k).length cap) wr := by rw [secsTo_no hkl (by rw [hx, h0])]; exact hR
        rw [hx, h0] at hc
        have HR := Lib.hid hR2
        clear hR hR2 hx h0
        generalize secsTo s.P k = L at *
        go_wp2
        go_roundw
        case rel => exact ⟨k + 1, by omega, by go_num, HR.out⟩
        case measure => simp [intOf]; omega
      · have HS := secsTo_yes hkl (by rw [hx]; exact h0)
        rw [hx] at hc HS
        replace HS := Lib.hid HS
        generalize secsTo s.P k = L at *
        have own := hR.1
        have hg := hR.2.size
        have HR := Lib.hid hR
        have hne : ((x : Int) != 0) = true := by simp; omega
        have hne2 : ((x : Int) == 0) = false := by simp; omega
        clear hR hx
        go_wp2_with (at_builtin; go_must (refine wpList_append_own _ rfl _ _ 53 rfl w.heap.size 3 i0 (.int .i64 0) 1 8 Tryd.underlying53 hi hz0 hz1 hz2 rfl (by decide) _ _ _ rfl (own.alloc _) ⟨wr.heap.size, 0, none⟩ 1 1 [.int .i64 (x : Nat)] rfl rfl (cell1_new _ _ _) (one_int _ _) (by unfold maxLen; omega) (by omega) (by simp; omega) ?_; intro v3 w3 own3 g3 _))
        have HQ := Lib.hid (HR.out.snoc own3 g3)
        clear own3 g3 own HR
        go_roundw
        case rel => exact ⟨k + 1, by omega, by go_num, by rw [HS.out]; exact HQ.out⟩
        case measure => simp [intOf]; omega
    · obtain rfl : k = 960 := by omega
      have hall : secsTo s.P 960 = secsF s.P := by unfold secsTo; rw [List.take_of_length_le (by rw [HF.out.1]; omega)]
      have HA := Lib.hid hall
      have HR := Lib.hid hR
      clear hR hall hlen
      go_wp2
      go_ret
      rw [← HA.out]
      exact ⟨_, rfl, HR.out.1, HR.out.2⟩
set_option maxRecDepth 100000 in
/-- A whole table, out of memory. -/
theorem load_tab {w : World} {p : Nat} {s : TB} (h : PT w p s) : (loadVar 62 ⟨p, 0, none⟩).run Tryd.prog w = .ok (.agg (tabC s).toArray) w := by
  have hl := load_row h.1 0 (tabC s) (fun j v hv => by rw [Nat.zero_add, List.getElem?_toArray]; exact hv)
  rw [tabC_length h.2] at hl
  simp [loadVar, Sem.run_bind, Tryd.isAgg62, Tryd.sizeOf62, hl]
set_option maxRecDepth 100000 in
theorem load_ref {w : World} {p : Nat} {s : TB} (h : RT w p s) : (loadVar 64 ⟨p, 0, none⟩).run Tryd.prog w = .ok (.agg (refC s).toArray) w := by
  have hl := load_row h.1 0 (refC s) (fun j v hv => by rw [Nat.zero_add, List.getElem?_toArray]; exact hv)
  rw [refC_length h.2] at hl
  simp [loadVar, Sem.run_bind, Tryd.isAgg64, Tryd.sizeOf64, hl]
theorem copy_nil (w : World) : Calls Tryd.prog 18 #[.pointer none] w fun e w' => e = .returned (.pointer none) ∧ w = w' := by
  go_enter Tryd.func18, Tryd.ntmps18
  go_wp2
  go_ret
  exact ⟨rfl, rfl⟩
theorem u16C_one (l : List Nat) : ∀ v ∈ u16C l, v.oneCell' = true := by
  intro v hv; unfold u16C at hv; obtain ⟨b, _, rfl⟩ := List.mem_map.1 hv; rfl
theorem intsC_one (l : List Nat) : ∀ v ∈ intsC l, v.oneCell' = true := by
  intro v hv; unfold intsC at hv; obtain ⟨b, _, rfl⟩ := List.mem_map.1 hv; rfl
theorem bools_one (l : List Bool) : ∀ v ∈ bools l, v.oneCell' = true := by
  intro v hv; unfold bools at hv; obtain ⟨b, _, rfl⟩ := List.mem_map.1 hv; rfl
theorem tabC_one (s : TB) : (tabC s).toArray.all (·.oneCell') = true := by
  rw [Array.all_eq_true_iff_forall_mem]
  intro v hv
  simp only [List.mem_toArray, tabC, List.mem_append] at hv
  rcases hv with h | h
  · exact u16C_one _ v h
  · exact bools_one _ v h
theorem refC_one (s : TB) : (refC s).toArray.all (·.oneCell') = true := by
  rw [Array.all_eq_true_iff_forall_mem]
  intro v hv
  simp only [List.mem_toArray, refC, List.mem_cons, List.mem_append] at hv
  rcases hv with h | h | h
  · rw [h]; rfl
  · exact intsC_one _ v h
  · exact bools_one _ v h
theorem tab_info {s : TB} (h : s.Fit) : (Tryd.prog.info? 62).map (·.size) = some (tabC s).toArray.size := by
  rw [List.size_toArray, tabC_length h]; kernel_rfl
theorem ref_info {s : TB} (h : s.Fit) : (Tryd.prog.info? 64).map (·.size) = some (refC s).toArray.size := by
  rw [List.size_toArray, refC_length h]; kernel_rfl
theorem tab_z968 : Tryd.zeroCells62.size = 968 := by kernel_rfl
theorem ref_z969 : Tryd.zeroCells64.size = 969 := by kernel_rfl
theorem tab_zeros {s : TB} (h : s.Fit) : Tryd.zeroCells62.size = (tabC s).toArray.size := by
  have : (tabC s).toArray.size = 968 := by rw [List.size_toArray, tabC_length h]
  rw [this]; exact tab_z968
theorem ref_zeros {s : TB} (h : s.Fit) : Tryd.zeroCells64.size = (refC s).toArray.size := by
  have : (refC s).toArray.size = 969 := by rw [List.size_toArray, refC_length h]
  rw [this]; exact ref_z969
set_option maxRecDepth 100000 in
theorem copy_any (p : Nat) (s : TB) (w : World) (h : PT w p s) : Calls Tryd.prog 18 #[.pointer (some ⟨p, 0, none⟩)] w fun e w' => e = .returned (.pointer (some ⟨w.heap.size, 0, none⟩)) ∧ PT w' w.heap.size s ∧ w.grownBy w' none := by
  have hl := load_tab h
  have hi := tab_info h.fit
  have hz := tab_zeros h.fit
  have h1 := tabC_one s
  obtain ⟨C, hC⟩ : ∃ C, (tabC s).toArray = C := ⟨_, rfl⟩
  rw [hC] at hl hi hz h1
  have HC := Lib.hid hC
  have HF := Lib.hid h.fit
  have HI := Lib.hid (And.intro hi (And.intro hz h1))
  clear h hC hi hz h1
  go_enter Tryd.func18, Tryd.ntmps18
  go_wp2_with (first
    | (refine wpList_load_at rfl 62 (.tmp 7) rfl ⟨p, 0, none⟩ rfl _ hl ?_)
    | (refine wpList_store_row rfl 62 (.tmp 3) (.tmp 8) rfl w.heap.size C rfl rfl 62 _ (Blk.mk w 62 Tryd.zeroCells62) HI.out.1 HI.out.2.1 HI.out.2.2 ?_; rw [World.setRow_alloc_new]))
  go_ret
  exact ⟨rfl, ⟨by rw [HC.out]; exact Blk.mk _ _ _, HF.out⟩, gb_alloc _ _ _⟩
set_option maxRecDepth 100000 in
theorem rcopy_any (p : Nat) (s : TB) (w : World) (h : RT w p s) : Calls Tryd.prog 19 #[.pointer (some ⟨p, 0, none⟩)] w fun e w' => e = .returned (.pointer (some ⟨w.heap.size, 0, none⟩)) ∧ RT w' w.heap.size s ∧ w.grownBy w' none := by
  have hl := load_ref h
  have hi := ref_info h.fit
  have hz := ref_zeros h.fit
  have h1 := refC_one s
  obtain ⟨C, hC⟩ : ∃ C, (refC s).toArray = C := ⟨_, rfl⟩
  rw [hC] at hl hi hz h1
  have HC := Lib.hid hC
  have HF := Lib.hid h.fit
  have HI := Lib.hid (And.intro hi (And.intro hz h1))
  clear h hC hi hz h1
  go_enter Tryd.func19, Tryd.ntmps19
  go_wp2_with (first
    | (refine wpList_load_at rfl 64 (.tmp 5) rfl ⟨p, 0, none⟩ rfl _ hl ?_)
    | (refine wpList_store_row rfl 64 (.tmp 3) (.tmp 6) rfl w.heap.size C rfl rfl 64 _ (Blk.mk w 64 Tryd.zeroCells64) HI.out.1 HI.out.2.1 HI.out.2.2 ?_; rw [World.setRow_alloc_new]))
  go_ret
  exact ⟨rfl, ⟨by rw [HC.out]; exact Blk.mk _ _ _, HF.out⟩, gb_alloc _ _ _⟩
/-- What a Clean leaves of the document's table. -/
theorem refC_off {s : TB} (h : s.Fit) : ((refC s).toArray.toList.take (961 + 0) ++ bools (offs 8) ++ (refC s).toArray.toList.drop (961 + 0 + (bools (offs 8)).length)).toArray = (refC (cleanF s)).toArray := by
  congr 1
  show (refC s).take 961 ++ bools (offs 8) ++ (refC s).drop (961 + (bools (offs 8)).length) = _
  have h1 : (intsC s.P).length = 960 := by rw [intsC_length]; exact h.1
  rw [List.drop_eq_nil_of_le (by rw [refC_length h, bools_length, offs_length]; omega), List.append_nil]
  unfold refC cleanF
  rw [show 961 = 960 + 1 from rfl, List.take_succ_cons, List.take_append_of_le_length (by omega), List.take_of_length_le (by omega)]
  rfl
set_option linter.unusedSimpArgs false in
set_option maxRecDepth 100000 in
theorem store_off {p : Nat} {s : TB} {w : World} (h : RT w p s) : (storeVar 60 ⟨p, 961, none⟩ (.agg #[.bool false, .bool false, .bool false, .bool false, .bool false, .bool false, .bool false, .bool false])).run Tryd.prog w = .ok () (w.setRow p (refC (cleanF s)).toArray) := by
  have hst := run_storeCells_at Tryd.prog p 961 64 (bools (offs 8)) 0 (refC s).toArray w h.1 (by rw [List.size_toArray, refC_length h.2, bools_length, offs_length]; omega) (bools_one _)
  rw [refC_off h.2, offs8] at hst
  simp [storeVar, isAgg, Sem.run_bind, Tryd.isAgg60, Tryd.sizeOf60, Value.cells, hst]
theorem wp_store_at {P : Program} {o : Oper} {a : Act} {w w' : World} {K : Act → World → Prop} {Q : Exit → Act → World → Prop} (ty : TypeId) (x y : Operand) (ho : o.op = .store ty x y)
    (ad : Addr) (hx : a.eval x = .pointer (some ad)) (v : Value) (hy : a.eval y = v) (hr : (storeVar ty ad v).run P w = .ok () w') (h : K (a.put o.dst undef) w') : o.wp P a w K Q := by
  unfold Oper.wp execOp
  simp only [ho, hx, hy, Instr.storeAt, Instr.sureAddr, Sem.run_bind, Sem.run_pure, Result.andThen_ok, hr]
  exact h
theorem wpList_store_at {P : Program} {ops : Array Oper} {rest : List Oper} {o : Oper} {a : Act} {w w' : World} {Q : Exit → Act → World → Prop} (hgd : o.guard = none) (ty : TypeId) (x y : Operand) (ho : o.op = .store ty x y)
    (ad : Addr) (hx : a.eval x = .pointer (some ad)) (v : Value) (hy : a.eval y = v) (hr : (storeVar ty ad v).run P w = .ok () w') (h : wpList P ops Q rest (a.put o.dst undef) w') : wpList P ops Q (o :: rest) a w :=
  wpList_plain hgd fun _ hK => wp_store_at ty x y ho ad hx v hy hr (hK _ _ h)
def RCleanGot (w : World) (p : Nat) (s : TB) (e : Ending) (w' : World) : Prop := e = .returned (.tuple #[]) ∧ RT w' p (cleanF s) ∧ w.grownBy w' (some p)
set_option maxRecDepth 100000 in
theorem rclean_any (p : Nat) (s : TB) (w : World) (h : RT w p s) : Calls Tryd.prog 17 #[.pointer (some ⟨p, 0, none⟩)] w (RCleanGot w p s) := by
  have hc := store_off h
  have hfin : RCleanGot w p s (.returned (.tuple #[])) (w.setRow p (refC (cleanF s)).toArray) := ⟨rfl, ⟨setRow_heap w p _ _ _ _ h.1, cleanF_fit h.2⟩, gb_setRow _ _ _⟩
  have HF := Lib.hid hfin
  clear h hfin
  generalize w.setRow p (refC (cleanF s)).toArray = W at hc HF
  go_enter Tryd.func17, Tryd.ntmps17
  go_wp2_with (refine wpList_store_at rfl 60 (.tmp 5) (.tmp 3) rfl ⟨p, 961, none⟩ rfl _ rfl hc ?_)
  go_end0
  exact HF.out
end Go.Proofs.YtfkkdhgggocgjaaDoor

