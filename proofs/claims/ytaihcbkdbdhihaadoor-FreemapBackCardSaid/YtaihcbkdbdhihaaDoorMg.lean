/-
  The document's own map: its small calls, over this seat's translation; conditions: the map lies as a list of bools of the call's own, at most 1024 of them.
-/
import Derived.Test.YtaihcbkdbdhihaaDoorMb
namespace Go.Proofs.YtaihcbkdbdhihaaDoor
open Go.RowKit

/-- The document's map: its block p, and its list's, q. -/
def RM (w : World) (p q : Nat) (us : List Bool) : Prop := Blk w p 61 #[.slice (some ⟨q, 0, none⟩) us.length us.length] ∧ Blk w q 4 (bools us).toArray
theorem RM.ne {w : World} {p q : Nat} {us : List Bool} (h : RM w p q us) : p ≠ q := by
  rintro rfl
  obtain ⟨h1, h2⟩ := h
  unfold Blk at h1 h2
  rw [h1] at h2
  injection h2 with h2
  injection h2 with _ h3
  exact absurd h3 (by decide)
theorem RM.keep {w w' : World} {p q : Nat} {us : List Bool} {r : Option Nat} (h : RM w p q us) (g : w.grownBy w' r) (h1 : some p ≠ r) (h2 : some q ≠ r) : RM w' p q us := ⟨h.1.keep g h1, h.2.keep g h2⟩
theorem RM.keep0 {w w' : World} {p q : Nat} {us : List Bool} (h : RM w p q us) (g : w.grownBy w' none) : RM w' p q us := h.keep g (by simp) (by simp)
theorem RM.set {w : World} {p q : Nat} {us : List Bool} (h : RM w p q us) (k : Nat) (b : Bool) : RM (w.setCell ⟨q, k, none⟩ (.bool b)) p q (us.set k b) := by
  refine ⟨?_, ?_⟩
  · rw [List.length_set]; exact h.1.keep (gb_set _ _ _ _ _) (ne_some h.ne)
  · have := h.2.set k (.bool b)
    rw [bools_set] at this
    exact this
theorem RM.head {w : World} {p q : Nat} {us : List Bool} (h : RM w p q us) : w.cell? ⟨p, 0, none⟩ = some (.slice (some ⟨q, 0, none⟩) us.length us.length) := h.1.cell 0 rfl
theorem RM.at {w : World} {p q : Nat} {us : List Bool} (h : RM w p q us) (k : Nat) (hk : k < us.length) : w.cell? ⟨q, k, none⟩ = some (.bool (us.getD k false)) := h.2.cell k (by rw [List.getElem?_toArray]; exact bools_at hk)
theorem rnew_no (n : Int) (w : World) (h : n < 1 ∨ 1024 < n) (h1 : -9223372036854775808 ≤ n) (h2 : n ≤ 9223372036854775807) :
    Calls Tryd.prog 9 #[.int .i64 n] w fun e w' => e = .returned (.pointer none) ∧ w = w' := by
  by_cases h3 : n < 1
  · go_enter Tryd.func9, Tryd.ntmps9
    go_wp2
    go_ret
    exact ⟨rfl, rfl⟩
  · have h4 : 1024 < n := by omega
    go_enter Tryd.func9, Tryd.ntmps9
    go_wp2
    go_ret
    exact ⟨rfl, rfl⟩
theorem rnew_yes (n : Nat) (w : World) (h1 : 1 ≤ n) (h2 : n ≤ 1024) :
    Calls Tryd.prog 9 #[.int .i64 (n : Nat)] w fun e w' => e = .returned (.pointer (some ⟨w.heap.size + 1, 0, none⟩)) ∧ RM w' (w.heap.size + 1) w.heap.size (List.replicate n false) ∧ w.grownBy w' none := by
  have mk : ∀ W, (Instr.makeSlice 48 (.int .i64 (n : Nat)) (.int .i64 (n : Nat))).run Tryd.prog W = .ok (.slice (some ⟨W.heap.size, 0, none⟩) n n) (W.alloc (.cells (bools (List.replicate n false)).toArray 4)) := fun W => make_bools n (n : Nat) W rfl (by omega)
  go_enter Tryd.func9, Tryd.ntmps9
  go_wp2
  go_ret
  refine ⟨rfl, ⟨?_, Blk.keep0 (Blk.mk w _ _) (gb_alloc _ _ _)⟩, gb_trans (gb_alloc _ _ _) (gb_alloc _ _ _)⟩
  have := Blk.mk (w.alloc (.cells (bools (List.replicate n false)).toArray 4)) 61 #[.slice (some ⟨w.heap.size, 0, none⟩) n n]
  rw [World.size_alloc] at this
  rw [List.length_replicate]
  exact this
theorem rthere_any (p q : Nat) (us : List Bool) (i : Int) (w : World) (h : RM w p q us) :
    Calls Tryd.prog 31 #[.pointer (some ⟨p, 0, none⟩), .int .i64 i] w fun e w' => e = .returned (.bool (decide (lackE us i = 0))) ∧ w = w' := by
  have hc := h.head
  by_cases h1 : i < 0
  · have he : lackE us i = 2 := by unfold lackE; rw [if_pos h1]
    rw [he]
    have h1' : ¬ 0 ≤ i := by omega
    clear he h
    go_enter Tryd.func31, Tryd.ntmps31
    go_wp2
    go_ret
    exact ⟨rfl, rfl⟩
  · have h1' : 0 ≤ i := by omega
    by_cases h2 : (us.length : Int) ≤ i
    · have he : lackE us i = 2 := by unfold lackE; rw [if_neg h1, if_pos h2]
      rw [he]
      clear he h
      go_enter Tryd.func31, Tryd.ntmps31
      go_wp2
      go_ret
      exact ⟨ret_bool (by simp; omega), rfl⟩
    · have he : lackE us i = 0 := by unfold lackE; rw [if_neg h1, if_neg h2]
      rw [he]
      have h2' : i < (us.length : Int) := by omega
      clear he h
      go_enter Tryd.func31, Tryd.ntmps31
      go_wp2
      go_ret
      exact ⟨rfl, rfl⟩
theorem dec_zero {z : Int} (h : z = 0) : decide (z = 0) = true := decide_eq_true h
theorem dec_not {z : Int} (h : z ≠ 0) : decide (z = 0) = false := decide_eq_false h
set_option maxHeartbeats 400000 in
theorem rhas_any (p q : Nat) (us : List Bool) (i : Int) (w : World) (h : RM w p q us) :
    Calls Tryd.prog 20 #[.pointer (some ⟨p, 0, none⟩), .int .i64 i] w fun e w' => e = .returned (.bool (hasF us i)) ∧ w = w' := by
  have HT := rthere_any p q us i w h
  by_cases h0 : lackE us i = 0
  · obtain ⟨m, rfl, hm⟩ := lackE_ok h0
    rw [dec_zero h0] at HT
    have HTT := Lib.hid HT
    rw [hasF_nat]
    have hc := h.head
    have hd := h.at m hm
    generalize us.getD m false = b at hd ⊢
    clear h h0 HT
    go_enter Tryd.func20, Tryd.ntmps20
    go_wp2_with (go_at_call 31; (with_reducible refine HTT.out.mono ?_); rintro e w' ⟨rfl, rfl⟩)
    go_ret
    exact ⟨rfl, rfl⟩
  · rw [dec_not h0] at HT
    have HTT := Lib.hid HT
    rw [hasF_no h0]
    clear h0 HT h
    go_enter Tryd.func20, Tryd.ntmps20
    go_wp2_with (go_at_call 31; (with_reducible refine HTT.out.mono ?_); rintro e w' ⟨rfl, rfl⟩)
    go_ret
    exact ⟨rfl, rfl⟩
set_option maxHeartbeats 400000 in
theorem ruse_any (p q : Nat) (us : List Bool) (i : Int) (w : World) (h : RM w p q us) :
    Calls Tryd.prog 12 #[.pointer (some ⟨p, 0, none⟩), .int .i64 i] w fun e w' => e = .returned (.int .i64 (useE us i)) ∧ RM w' p q (useS us i) ∧ w.grownBy w' (some q) := by
  have HT := rthere_any p q us i w h
  have HR := Lib.hid h
  by_cases h0 : lackE us i = 0
  · obtain ⟨m, rfl, hm⟩ := lackE_ok h0
    rw [dec_zero h0] at HT
    have HTT := Lib.hid HT
    have hc := h.head
    have hd := h.at m hm
    have hf := h.2.free m
    obtain ⟨b, hb⟩ : ∃ b, us.getD m false = b := ⟨_, rfl⟩
    rw [hb] at hd
    cases b
    · have he : useE us (m : Int) = 0 := by unfold useE; rw [if_neg (by simp [h0]), hasF_nat, hb]; rfl
      have hs : useS us (m : Int) = us.set m true := by unfold useS; rw [if_pos he]; simp
      rw [he, hs]
      clear h h0 HT hb he hs
      go_enter Tryd.func12, Tryd.ntmps12
      go_wp2_with (go_at_call 31; (with_reducible refine HTT.out.mono ?_); rintro e w' ⟨rfl, rfl⟩)
      go_ret
      exact ⟨rfl, HR.out.set m true, gb_set _ _ _ _ _⟩
    · have he : useE us (m : Int) = 12 := by unfold useE; rw [if_neg (by simp [h0]), hasF_nat, hb]; rfl
      have hs : useS us (m : Int) = us := by unfold useS; rw [if_neg (by rw [he]; decide)]
      rw [he, hs]
      clear h h0 HT hb he hs
      go_enter Tryd.func12, Tryd.ntmps12
      go_wp2_with (go_at_call 31; (with_reducible refine HTT.out.mono ?_); rintro e w' ⟨rfl, rfl⟩)
      go_ret
      exact ⟨rfl, HR.out, gb_refl _ _⟩
  · rw [dec_not h0] at HT
    have HTT := Lib.hid HT
    have he : useE us i = 2 := by unfold useE; rw [if_pos h0]
    have hs : useS us i = us := by unfold useS; rw [if_neg (by rw [he]; decide)]
    rw [he, hs]
    clear h0 HT h he hs
    go_enter Tryd.func12, Tryd.ntmps12
    go_wp2_with (go_at_call 31; (with_reducible refine HTT.out.mono ?_); rintro e w' ⟨rfl, rfl⟩)
    go_ret
    exact ⟨rfl, HR.out, gb_refl _ _⟩
set_option maxHeartbeats 400000 in
theorem rgive_any (p q : Nat) (us : List Bool) (i : Int) (w : World) (h : RM w p q us) :
    Calls Tryd.prog 14 #[.pointer (some ⟨p, 0, none⟩), .int .i64 i] w fun e w' => e = .returned (.int .i64 (giveE us i)) ∧ RM w' p q (giveS us i) ∧ w.grownBy w' (some q) := by
  have HT := rthere_any p q us i w h
  have HR := Lib.hid h
  by_cases h0 : lackE us i = 0
  · obtain ⟨m, rfl, hm⟩ := lackE_ok h0
    rw [dec_zero h0] at HT
    have HTT := Lib.hid HT
    have hc := h.head
    have hd := h.at m hm
    have hf := h.2.free m
    obtain ⟨b, hb⟩ : ∃ b, us.getD m false = b := ⟨_, rfl⟩
    rw [hb] at hd
    cases b
    · have he : giveE us (m : Int) = 13 := by unfold giveE; rw [if_neg (by simp [h0]), hasF_nat, hb]; rfl
      have hs : giveS us (m : Int) = us := by unfold giveS; rw [if_neg (by rw [he]; decide)]
      rw [he, hs]
      clear h h0 HT hb he hs
      go_enter Tryd.func14, Tryd.ntmps14
      go_wp2_with (go_at_call 31; (with_reducible refine HTT.out.mono ?_); rintro e w' ⟨rfl, rfl⟩)
      go_ret
      exact ⟨rfl, HR.out, gb_refl _ _⟩
    · have he : giveE us (m : Int) = 0 := by unfold giveE; rw [if_neg (by simp [h0]), hasF_nat, hb]; rfl
      have hs : giveS us (m : Int) = us.set m false := by unfold giveS; rw [if_pos he]; simp
      rw [he, hs]
      clear h h0 HT hb he hs
      go_enter Tryd.func14, Tryd.ntmps14
      go_wp2_with (go_at_call 31; (with_reducible refine HTT.out.mono ?_); rintro e w' ⟨rfl, rfl⟩)
      go_ret
      exact ⟨rfl, HR.out.set m false, gb_set _ _ _ _ _⟩
  · rw [dec_not h0] at HT
    have HTT := Lib.hid HT
    have he : giveE us i = 2 := by unfold giveE; rw [if_pos h0]
    have hs : giveS us i = us := by unfold giveS; rw [if_neg (by rw [he]; decide)]
    rw [he, hs]
    clear h0 HT h he hs
    go_enter Tryd.func14, Tryd.ntmps14
    go_wp2_with (go_at_call 31; (with_reducible refine HTT.out.mono ?_); rintro e w' ⟨rfl, rfl⟩)
    go_ret
    exact ⟨rfl, HR.out, gb_refl _ _⟩
/-- How many of the first things are free. -/
theorem count_snoc (us : List Bool) (k : Nat) (hk : k < us.length) : (us.take (k + 1)).count false = (us.take k).count false + if us.getD k false then 0 else 1 := by
  rw [List.take_succ_eq_append_getElem hk, List.count_append]
  have e : us.getD k false = us[k] := by simp [List.getD_eq_getElem?_getD, hk]
  rw [e]
  cases us[k] <;> simp
set_option maxHeartbeats 400000 in
theorem rleft_any (p q : Nat) (us : List Bool) (w : World) (h : RM w p q us) (hn : us.length ≤ 1024) :
    Calls Tryd.prog 22 #[.pointer (some ⟨p, 0, none⟩)] w fun e w' => e = .returned (.int .i64 (leftF us : Nat)) ∧ w = w' := by
  have hc := h.head
  have HR := Lib.hid h
  clear h
  go_enter Tryd.func22, Tryd.ntmps22
  go_wp2
  go_loop [3, 4] (fun v i => ∃ k : Nat, k ≤ us.length ∧ i = .int .i64 k ∧ v = .int .i64 ((us.take k).count false : Nat)) (fun _ i => us.length - (intOf i).toNat)
  case atStart => exact ⟨0, by omega, rfl, rfl⟩
  case round =>
    obtain ⟨k, hk, rfl, rfl⟩ := hrel
    have hcl : (us.take k).count false ≤ 1024 := Nat.le_trans List.count_le_length (by simp; omega)
    by_cases hlt : k < us.length
    · have hd := HR.out.at k hlt
      have HS := Lib.hid (count_snoc us k hlt)
      obtain ⟨b, hb⟩ : ∃ b, us.getD k false = b := ⟨_, rfl⟩
      rw [hb] at hd HS
      obtain ⟨c, hcc⟩ : ∃ c, (us.take k).count false = c := ⟨_, rfl⟩
      rw [hcc] at hcl HS ⊢
      clear hb hcc
      cases b
      · go_wp2
        go_round
        case rel => exact ⟨k + 1, by omega, by go_num, by rw [HS.out]; go_num⟩
        case measure => simp [intOf]; omega
      · go_wp2
        go_round
        case rel => exact ⟨k + 1, by omega, by go_num, by rw [HS.out]; go_num⟩
        case measure => simp [intOf]; omega
    · have hall : (us.take k).count false = leftF us := by rw [List.take_of_length_le (by omega)]; rfl
      have HA := Lib.hid hall
      clear hall
      go_wp2
      go_ret
      exact ⟨ret_int (by rw [HA.out]), rfl⟩
set_option maxHeartbeats 400000 in
theorem rtake_any (p q : Nat) (us : List Bool) (w : World) (h : RM w p q us) (hn : us.length ≤ 1024) :
    Calls Tryd.prog 16 #[.pointer (some ⟨p, 0, none⟩)] w fun e w' => e = .returned (.tuple #[.int .i64 (lowF us), .int .i64 (takeE us)]) ∧ RM w' p q (takeS us) ∧ w.grownBy w' (some q) := by
  have hc := h.head
  have HR := Lib.hid h
  clear h
  go_enter Tryd.func16, Tryd.ntmps16
  go_wp2
  go_loop [4] (fun i => ∃ k : Nat, k ≤ us.length ∧ i = .int .i64 k ∧ Hid (∀ j, j < k → us.getD j false = true)) (fun i => us.length - (intOf i).toNat)
  case atStart => exact ⟨0, by omega, rfl, Lib.hid (fun j hj => by omega)⟩
  case round =>
    obtain ⟨k, hk, rfl, hall⟩ := hrel
    by_cases hlt : k < us.length
    · have hd := HR.out.at k hlt
      have hf := HR.out.2.free k
      obtain ⟨b, hb⟩ : ∃ b, us.getD k false = b := ⟨_, rfl⟩
      rw [hb] at hd
      have HB := Lib.hid hb
      clear hb
      cases b
      · have hnx : nextF us 0 false = k := nextF_is (Nat.zero_le _) hk (fun i _ hi => hall.out i hi) (fun _ => HB.out)
        have he : takeE us = 0 := by unfold takeE; rw [hnx, if_pos hlt]
        have hs : takeS us = us.set k true := by unfold takeS; rw [hnx, if_pos hlt]
        have hl : lowF us = (k : Nat) := by unfold lowF; rw [hnx, if_pos hlt]
        have HE := Lib.hid (And.intro he (And.intro hs hl))
        clear hnx he hs hl
        go_wp2
        go_ret2
        exact ⟨by rw [HE.out.1, HE.out.2.2]; rfl, by rw [HE.out.2.1]; exact HR.out.set k true, gb_set _ _ _ _ _⟩
      · go_wp2
        go_round
        case rel => exact ⟨k + 1, by omega, by go_num, Lib.hid (fun j hj => by
          by_cases e : j = k
          · subst e; exact HB.out
          · exact hall.out j (by omega))⟩
        case measure => simp [intOf]; omega
    · have hnx : nextF us 0 false = us.length := nextF_is (Nat.zero_le _) (Nat.le_refl _) (fun i _ hi => hall.out i (by omega)) (fun h => by omega)
      have he : takeE us = 11 := by unfold takeE; rw [hnx, if_neg (by omega)]
      have hs : takeS us = us := by unfold takeS; rw [hnx, if_neg (by omega)]
      have hl : lowF us = -1 := by unfold lowF; rw [hnx, if_neg (by omega)]
      have HE := Lib.hid (And.intro he (And.intro hs hl))
      clear hnx he hs hl
      go_wp2
      go_ret2
      exact ⟨by rw [HE.out.1, HE.out.2.2]; rfl, by rw [HE.out.2.1]; exact HR.out, gb_refl _ _⟩
end Go.Proofs.YtaihcbkdbdhihaaDoor
