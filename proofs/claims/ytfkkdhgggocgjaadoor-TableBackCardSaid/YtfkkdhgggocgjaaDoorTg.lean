/-
  What the program's Load answers and leaves, over this seat's translation; conditions: the table's block is there, the variable errors.errorType holds its type's handle.
-/
import Derived.Test.YtfkkdhgggocgjaaDoorTh
namespace Go.Proofs.YtfkkdhgggocgjaaDoor
open Go.RowKit

def loadC (i : Int) (t : ByteArray) : Nat × Nat := if 0 ≤ i ∧ i < 8 then textC t else (2, 0)
def layF (s : TB) (a : Nat) (r : List Nat) : TB := ⟨s.P.take a ++ r ++ s.P.drop (a + 120), s.D⟩
def offF (s : TB) (i : Nat) : TB := ⟨s.P, s.D.set i false⟩
def loadF (s : TB) (i : Int) (t : ByteArray) : TB := if (loadC i t).1 = 0 then offF (layF s (120 * i.toNat) (rowF t)) i.toNat else s
theorem textC_ok {t : ByteArray} (h : (textC t).1 = 0) : t.size = 240 ∧ ∀ x ∈ rowF t, x < 1024 := by
  unfold textC at h
  by_cases h1 : t.size = 240
  · rw [if_neg (fun e => e h1)] at h
    by_cases h2 : badAt (rowF t) < 120
    · rw [if_pos h2] at h; cases h
    · refine ⟨h1, fun x hx => ?_⟩
      obtain ⟨j, hj, rfl⟩ := List.mem_iff_getElem.1 hx
      rcases Nat.lt_or_ge (rowF t)[j] 1024 with h3 | h3
      · exact h3
      · exfalso
        apply h2
        have h4 : badB (rowF t)[j] = true := by unfold badB; rw [decide_eq_true h3]; simp
        have h5 : badAt (rowF t) < (rowF t).length := List.findIdx_lt_length_of_exists ⟨_, List.getElem_mem hj, h4⟩
        rw [rowF_length] at h5; exact h5
  · rw [if_pos h1] at h; cases h
theorem layF_fit {s : TB} (h : s.Fit) {a : Nat} (ha : a + 120 ≤ 960) {r : List Nat} (hr : r.length = 120) (hx : ∀ x ∈ r, x < 1024) : (layF s a r).Fit := by
  have hl := h.1
  refine ⟨?_, h.2.1, fun x hm => ?_⟩
  · unfold layF; simp only [List.length_append, List.length_take, List.length_drop]; omega
  · unfold layF at hm
    simp only [List.mem_append] at hm
    rcases hm with (h1 | h1) | h1
    · exact h.2.2 x (List.mem_of_mem_take h1)
    · exact hx x h1
    · exact h.2.2 x (List.mem_of_mem_drop h1)
theorem offF_fit {s : TB} (h : s.Fit) (i : Nat) : (offF s i).Fit := ⟨h.1, by unfold offF; rw [List.length_set]; exact h.2.1, h.2.2⟩
theorem loadF_fit {s : TB} (h : s.Fit) (i : Int) (t : ByteArray) : (loadF s i t).Fit := by
  unfold loadF
  split
  · rename_i h0
    unfold loadC at h0
    by_cases hi : 0 ≤ i ∧ i < 8
    · rw [if_pos hi] at h0
      exact offF_fit (layF_fit h (by omega) (rowF_length t) (textC_ok h0).2) _
    · rw [if_neg hi] at h0; cases h0
  · exact h
theorem tabC_lay {s : TB} (h : s.Fit) {a : Nat} (ha : a + 120 ≤ 960) {r : List Nat} (hr : r.length = 120) : ((tabC s).toArray.toList.take a ++ u16C r ++ (tabC s).toArray.toList.drop (a + (u16C r).length)).toArray = (tabC (layF s a r)).toArray := by
  congr 1
  show (tabC s).take a ++ u16C r ++ (tabC s).drop (a + (u16C r).length) = _
  have hl : (u16C s.P).length = 960 := by rw [u16C_length]; exact h.1
  unfold tabC layF
  rw [u16C_length, hr, List.take_append_of_le_length (by omega), List.drop_append_of_le_length (by omega)]
  simp [u16C, List.map_take, List.map_drop]
theorem copy_tab {W : World} {p b a : Nat} {s : TB} {r : List Nat} (h : PT W p s) (hr : Rw W b r) (ha : a + 120 ≤ 960) (ty : TypeId) :
    (Builtin.copy_ #[75, 75] ty #[.slice (some ⟨p, a, none⟩) 120 120, .slice (some ⟨b, 0, none⟩) 120 120]).run Tryd.prog W = .ok (.int .i64 120) (W.setRow p (tabC (layF s a r)).toArray) := by
  have hcell : ∀ j u, (u16C r)[j]? = some u → W.cell? ((⟨b, 0, none⟩ : Addr).add j) = some u := by
    intro j u hj
    rw [add_at, Nat.zero_add]
    exact hr.blk.cell j (by rw [List.getElem?_toArray]; exact hj)
  have := run_copy_row (P := Tryd.prog) W 75 75 ty 49 p a 120 120 ⟨b, 0, none⟩ 120 120 (tabC s).toArray 62 (u16C r) Tryd.underlying75 (by kernel_rfl) h.1 (by rw [u16C_length, hr.2]; rfl) hcell (by rw [u16C_length, hr.2, List.size_toArray, tabC_length h.2]; omega) (u16C_one r)
  rw [tabC_lay h.2 ha hr.2, u16C_length, hr.2] at this
  exact this
theorem load_nil (i : Int) (t : ByteArray) (w : World) : Calls Tryd.prog 14 #[.pointer none, .int .i64 i, .string t] w fun e w' => e = .returned (.iface 67 (.pointer (some ⟨w.heap.size, 0, none⟩))) ∧ Ft w' w.heap.size 1 0 ∧ w.grownBy w' none := by
  go_enter Tryd.func14, Tryd.ntmps14
  go_wp2
  go_ret
  exact ⟨rfl, Blk.mk _ _ _, gb_alloc _ _ _⟩
/-- What a Load answers and leaves. -/
def LoadGot (w : World) (p : Nat) (s : TB) (i : Int) (t : ByteArray) (e : Ending) (w' : World) : Prop :=
  PT w' p (loadF s i t) ∧ w.grownBy w' (some p) ∧
  ((loadC i t).1 = 0 → e = .returned .nilIface) ∧
  ((loadC i t).1 ≠ 0 → ∃ a : Nat, e = .returned (.iface 67 (.pointer (some ⟨a, 0, none⟩))) ∧ w.heap.size ≤ a ∧ Ft w' a ((loadC i t).1 : Nat) ((loadC i t).2 : Nat))
set_option maxRecDepth 100000 in
set_option maxHeartbeats 2000000 in
theorem load_any (p : Nat) (s : TB) (i : Int) (t : ByteArray) (w : World) (h : PT w p s) (hd : Hd w) (ht : t.size ≤ 9223372036854775807) :
    Calls Tryd.prog 14 #[.pointer (some ⟨p, 0, none⟩), .int .i64 i, .string t] w (LoadGot w p s i t) := by
  by_cases hi : 0 ≤ i ∧ i < 8
  · have hC : loadC i t = textC t := if_pos hi
    obtain ⟨c, rfl, hc⟩ : ∃ c : Nat, i = (c : Int) ∧ c < 8 := ⟨i.toNat, by omega, by omega⟩
    have HI := Lib.hid hi
    have HP := Lib.hid h
    have hpl := h.lt
    have HR := Lib.hid (rowOf_any t w hd ht)
    by_cases h0 : (textC t).1 = 0
    · have hF : loadF s c t = offF (layF s (120 * c) (rowF t)) c := by unfold loadF; rw [hC, if_pos h0, Int.toNat_natCast]
      have HF := Lib.hid (And.intro hF (And.intro hC h0))
      have hz := zero_row
      obtain ⟨Z, hZ⟩ : ∃ Z, (u16C (nots 120)).toArray = Z := ⟨_, rfl⟩
      rw [hZ] at hz
      have HZ := Lib.hid hZ
      have hlen := rowF_length t
      have hfin := layF_fit h.fit (a := 120 * c) (by omega) hlen (textC_ok h0).2
      obtain ⟨a, ha⟩ : ∃ a : Nat, 120 * c = a := ⟨_, rfl⟩
      rw [ha] at hF hfin HF
      have ha2 : a + 120 ≤ 960 := by omega
      have HA := Lib.hid ha
      have hz5 : Z.size = (u16C (rowF t)).toArray.size := by rw [← hZ]; exact rw_size (nots_length _) hlen
      have HI3 := Lib.hid (And.intro (rw_info hlen) (And.intro hz5 (rw_one (rowF t))))
      have HCF := Lib.hid (And.intro hlen hfin)
      generalize (u16C (rowF t)).toArray.size = sz at hz5
      obtain ⟨C, hCC⟩ : ∃ C, (u16C (rowF t)).toArray = C := ⟨_, rfl⟩
      have HCC := Lib.hid hCC
      rw [hCC] at HI3
      clear hi h hd hC h0 hF hZ hlen hfin ha hz5 hCC
      go_enter Tryd.func14, Tryd.ntmps14
      go_wp2_with (first
        | (go_at_call 36; (with_reducible refine (isChunk_is _ (decide_eq_true HI.out)).mono ?_); rintro e w' ⟨rfl, rfl⟩)
        | (go_at_call 37; (with_reducible refine HR.out.mono ?_); rintro e w2 ⟨g2, hok, _⟩; have he := hok HF.out.2.2; subst he; clear hok; rw [HCC.out])
        | (refine wpList_store_row rfl 72 (.tmp 7) (.tmp 23) rfl w2.heap.size C rfl rfl 72 _ (Blk.mk w2 72 Z) HI3.out.1 HI3.out.2.1 HI3.out.2.2 ?_; rw [World.setRow_alloc_new]))
      have P3 := (HP.out.keep0 g2).keep0 (gb_alloc w2 (.cells C 72) none)
      have R3 : Rw (w2.alloc (.cells C 72)) w2.heap.size (rowF t) := ⟨by rw [HCC.out]; exact Blk.mk _ _ _, HCF.out.1⟩
      have G3 := gb_trans g2 (gb_alloc w2 (.cells C 72) none)
      have s2 := g2.size
      generalize w2.alloc (.cells C 72) = W3 at P3 R3 G3 ⊢
      generalize w2.heap.size = b at R3 s2 ⊢
      have HPR := Lib.hid (And.intro P3 (And.intro R3 G3))
      clear P3 R3 G3
      go_region_with (go_at_call 38
                      (with_reducible refine (chunk_any p c a _ hc HA.out).mono ?_)
                      rintro e w' ⟨rfl, rfl⟩
                      have cp := fun ty => copy_tab (HPR.out.1.keep0 (gb_drew W3 none)) (HPR.out.2.1.keep0 (gb_drew W3 none)) ha2 ty)
      all_goals
        have P4 : PT (W3.drew.setRow p (tabC (layF s a (rowF t))).toArray) p (layF s a (rowF t)) := ⟨setRow_heap _ _ _ _ _ _ (HPR.out.1.keep0 (gb_drew W3 none)).1, HCF.out.2⟩
        have G4 : w.grownBy (W3.drew.setRow p (tabC (layF s a (rowF t))).toArray) (some p) := gb_trans (gb_weak (gb_trans HPR.out.2.2 (gb_drew W3 none)) _) (gb_setRow _ _ _)
        generalize W3.drew.setRow p (tabC (layF s a (rowF t))).toArray = W4 at P4 G4 ⊢
        have c4 := P4.dirt (k := c) hc
        have f4 := P4.free (960 + c)
        have HQ := Lib.hid (And.intro (P4.setDirt c false) (gb_trans G4 (gb_set W4 p (960 + c) none (.bool false))))
        clear P4 G4 cp
        go_wp2
        go_ret
        refine ⟨?_, HQ.out.2, fun _ => rfl, fun h => ?_⟩
        · rw [HF.out.1]; exact HQ.out.1
        · rw [HF.out.2.1] at h; exact absurd HF.out.2.2 h
    · have hF : loadF s c t = s := by unfold loadF; rw [hC, if_neg h0]
      have HF := Lib.hid (And.intro hF (And.intro hC h0))
      have hz := zero_row
      obtain ⟨Z, hZ⟩ : ∃ Z, (u16C (nots 120)).toArray = Z := ⟨_, rfl⟩
      rw [hZ] at hz
      have HZ := Lib.hid hZ
      have HI3 := Lib.hid (And.intro (rw_info (nots_length 120)) (rw_one (nots 120)))
      rw [hZ] at HI3
      clear hi h hd hC h0 hF hZ
      go_enter Tryd.func14, Tryd.ntmps14
      go_wp2_with (first
        | (go_at_call 36; (with_reducible refine (isChunk_is _ (decide_eq_true HI.out)).mono ?_); rintro e w' ⟨rfl, rfl⟩)
        | (go_at_call 37; (with_reducible refine HR.out.mono ?_); rintro e w2 ⟨g2, _, hno⟩; obtain ⟨a, he, ha, hf⟩ := hno HF.out.2.2; subst he; clear hno; rw [HZ.out])
        | (refine wpList_store_row rfl 72 (.tmp 7) (.tmp 23) rfl w2.heap.size Z rfl rfl 72 _ (Blk.mk w2 72 Z) HI3.out.1 rfl HI3.out.2 ?_; rw [World.setRow_alloc_new]))
      go_ret
      refine ⟨?_, gb_weak (gb_trans g2 (gb_alloc _ _ _)) _, fun h => ?_, fun _ => ⟨a, rfl, ha, ?_⟩⟩
      · rw [HF.out.1]; exact (HP.out.keep0 g2).keep0 (gb_alloc _ _ _)
      · rw [HF.out.2.1] at h; exact absurd h HF.out.2.2
      · rw [HF.out.2.1]; exact hf.keep0 (gb_alloc _ _ _)
  · have hC : loadC i t = (2, 0) := if_neg hi
    have hF : loadF s i t = s := by unfold loadF; rw [hC]; rfl
    have HF := Lib.hid (And.intro hF hC)
    have HI := Lib.hid hi
    have HP := Lib.hid h
    clear hi h hd hC hF
    go_enter Tryd.func14, Tryd.ntmps14
    go_wp2_with (go_at_call 36; (with_reducible refine (isChunk_is _ (decide_eq_false HI.out)).mono ?_); rintro e w' ⟨rfl, rfl⟩)
    go_ret
    refine ⟨?_, gb_weak (gb_alloc _ _ _) _, fun h => ?_, fun _ => ⟨w.heap.size, rfl, Nat.le_refl _, ?_⟩⟩
    · rw [HF.out.1]; exact HP.out.keep0 (gb_alloc _ _ _)
    · rw [HF.out.2] at h; cases h
    · rw [HF.out.2]; exact Blk.mk _ _ _
end Go.Proofs.YtfkkdhgggocgjaaDoor

