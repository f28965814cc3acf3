/-
  What the document's May answers of a node, over this seat's translation; conditions: the node lies as it is told, and has at most 300,000 of each.
-/
import Derived.Test.YthhimhjegodklaaGreatNzj
namespace Go.Proofs.YthhimhjegodklaaGreat.N11
set_option linter.unusedSimpArgs false
set_option linter.unusedVariables false
open Go.RowKit
theorem mayL_bad {cs : List Ce} {k : Nat} {x : Ce} (h : cs[k]? = some x) (hx : cellB x = false) (a b : Nat) : mayL cs a b = false := by
  unfold mayL
  rw [show cs.all cellB = false by rw [List.all_eq_false]; exact ⟨x, List.mem_of_getElem? h, by rw [hx]; exact Bool.false_ne_true⟩]
  simp
theorem mayL_fall {cs : List Ce} (h : riseF (cs.map Ce.key) = false) (a b : Nat) : mayL cs a b = false := by
  unfold mayL; rw [h]; simp
theorem mayL_end {cs : List Ce} (h : ∀ x ∈ cs, cellB x = true) (hr : riseF (cs.map Ce.key) = true) (a b : Nat) : mayL cs a b = (decide (0 < cs.length) && decide (a = 0) && decide (b = 0)) := by
  unfold mayL; rw [hr, List.all_eq_true.2 h]; simp
theorem mayI_bad {ks : List ByteArray} {k : Nat} {x : ByteArray} (h : ks[k]? = some x) (hx : keyB x = false) (a : Nat) (is : List Int) : mayI a ks is = false := by
  unfold mayI
  rw [show ks.all keyB = false by rw [List.all_eq_false]; exact ⟨x, List.mem_of_getElem? h, by rw [hx]; exact Bool.false_ne_true⟩]
  simp
theorem mayI_fall {ks : List ByteArray} (h : riseF ks = false) (a : Nat) (is : List Int) : mayI a ks is = false := by
  unfold mayI; rw [h]; simp
theorem mayI_page {is : List Int} {k : Nat} {x : Int} (h : is[k]? = some x) (hx : pageB x = false) (a : Nat) (ks : List ByteArray) : mayI a ks is = false := by
  unfold mayI
  rw [show is.all pageB = false by rw [List.all_eq_false]; exact ⟨x, List.mem_of_getElem? h, by rw [hx]; exact Bool.false_ne_true⟩]
  simp
theorem mayI_end {ks : List ByteArray} {is : List Int} (h : ∀ x ∈ ks, keyB x = true) (hr : riseF ks = true) (hi : ∀ y ∈ is, pageB y = true) (a : Nat) : mayI a ks is = (decide (a = 0) && decide (0 < ks.length) && decide (is.length = ks.length + 1)) := by
  unfold mayI; rw [hr, List.all_eq_true.2 h, List.all_eq_true.2 hi]; simp
theorem geq_spell {a b : ByteArray} {c : Bool} (h : ltS a b = c) : Op.bytesLess a.toList b.toList = c := h
set_option maxRecDepth 100000 in
set_option maxHeartbeats 2000000 in
theorem refMay_L (a b c : Value) (cs : List Ce) (ks : List ByteArray) (is : List Int) (w : World) (ha : Ces w a cs) (hb : Sts w b ks) (hc : Ins w c is) (hl : cs.length ≤ 1000000) :
    Calls Tryz.prog 22 #[.agg #[.bool true, a, b, c]] w fun e w' => e = .returned (.bool (mayL cs ks.length is.length)) ∧ w.grownBy w' none := by
  obtain ⟨ao, cap, rfl, hcap, hlen, hnil, hcell⟩ := ha
  obtain ⟨bo, cb, rfl⟩ := Sl.shape hb
  obtain ⟨co, cc, rfl⟩ := Sl.shape hc
  have HN1 := Lib.hid (show ao = none → cs.length = 0 from fun e => (hnil e).1)
  obtain ⟨w0, hw0, kN, g0, hz⟩ := new1 w 26 #[.bool true, .slice ao cs.length cap, .slice bo ks.length cb, .slice co is.length cc]
  have HH1 := Lib.hid (fun a e j u h => g0.cell (hcell a e j u h) (by simp))
  have HW := Lib.hid hw0
  clear hb hc hlen hnil hcell hw0 hz
  generalize ks.length = n2 at kN HW ⊢
  generalize is.length = n3 at kN HW ⊢
  go_enter Tryz.func22, Tryz.ntmps22
  go_wp2
  rw [← HW.out]
  go_loopw [3] (fun z wr => ∃ k : Nat, k ≤ cs.length ∧ z = .int .i64 (k : Nat) ∧ Hid (∀ y ∈ cs.take k, cellB y = true) ∧ Hid (riseF ((cs.map Ce.key).take k) = true) ∧ w0.grownBy wr none) (fun z _ => cs.length - (intOf z).toNat)
  case atStart => exact ⟨0, Nat.zero_le _, rfl, Lib.hid (by simp), Lib.hid rfl, gb_refl _ _⟩
  case round =>
    obtain ⟨k, hk, rfl, hall, hp, gr⟩ := hrel
    have p1 := (kN.keep0 gr).cell 1 rfl
    have p2 := (kN.keep0 gr).cell 2 rfl
    have p3 := (kN.keep0 gr).cell 3 rfl
    by_cases hlt : k < cs.length
    · obtain ⟨x, hx⟩ : ∃ x, cs[k]? = some x := ⟨_, List.getElem?_eq_getElem hlt⟩
      cases ao with
      | none => have := HN1.out rfl; omega
      | some a =>
        obtain ⟨c0, c1, c2, c3⟩ := cat_of (fun j u h => gr.cell (HH1.out _ rfl j u h) (by simp)) hx
        have HGX := Lib.hid hx
        clear hx
        have hkn : (k : Int) < (cs.length : Int) := by omega
        rcases hpx : cellB x with _ | _
        · have HX : Hid (∀ W, Calls Tryz.prog 29 #[.agg #[.string x.key, .string x.val, .int .i64 x.fi, .int .i64 x.lo]] W fun e w' => e = .returned (.bool false) ∧ W.grownBy w' none) := Lib.hid (fun W => by have h := celled_any x.key x.val x.fi x.lo W; rw [hpx] at h; exact h)
          have HBAD := Lib.hid (mayL_bad HGX.out hpx)
          clear hpx
          go_upto_region 5 with fail
          refine wp_region_noPanic ?_
          refine wp_region_held_drew (S := fun w' => wr.grownBy w' none) (by kernel_rfl) (gb_drew _ _) (fun hHeld => ?_)
          refine wpAnyH_take (i := 0) (v := ?_) (List.getElem?_toArray.trans rfl) (by kernel_rfl) (by kernel_rfl) (by kernel_rfl) (fun _ _ _ h => h) (Or.inl ⟨by rfl, ?_⟩) hHeld ?_
          rotate_left
          · intro w' hSw; have q1 := hSw.cell p1 (by simp); have d0 := hSw.cell c0 (by simp); have d1 := hSw.cell c1 (by simp); have d2 := hSw.cell c2 (by simp); have d3 := hSw.cell c3 (by simp); go_simp; try with_reducible rfl
          try simp only [Act.put, List.setIfInBounds_toArray, List.set_cons_zero, List.set_cons_succ]
          refine wpAnyH_take (i := 1) (v := ?_) (List.getElem?_toArray.trans rfl) (by kernel_rfl) (by kernel_rfl) (by kernel_rfl) (fun _ _ _ h => h) (Or.inl ⟨by rfl, ?_⟩) hHeld ?_
          rotate_left
          · intro w' hSw; have q1 := hSw.cell p1 (by simp); have d0 := hSw.cell c0 (by simp); have d1 := hSw.cell c1 (by simp); have d2 := hSw.cell c2 (by simp); have d3 := hSw.cell c3 (by simp); go_simp; try with_reducible rfl
          try simp only [Act.put, List.setIfInBounds_toArray, List.set_cons_zero, List.set_cons_succ]
          refine wpAnyH_take (i := 2) (v := ?_) (List.getElem?_toArray.trans rfl) (by kernel_rfl) (by kernel_rfl) (by kernel_rfl) (fun _ _ _ h => h) (Or.inl ⟨by rfl, ?_⟩) hHeld ?_
          rotate_left
          · intro w' hSw; have q1 := hSw.cell p1 (by simp); have d0 := hSw.cell c0 (by simp); have d1 := hSw.cell c1 (by simp); have d2 := hSw.cell c2 (by simp); have d3 := hSw.cell c3 (by simp); go_simp; try with_reducible rfl
          try simp only [Act.put, List.setIfInBounds_toArray, List.set_cons_zero, List.set_cons_succ]
          refine wpAnyH_take (i := 3) (v := ?_) (List.getElem?_toArray.trans rfl) (by kernel_rfl) (by kernel_rfl) (by kernel_rfl) (fun _ _ _ h => h) (Or.inl ⟨by rfl, ?_⟩) hHeld ?_
          rotate_left
          · intro w' hSw; have q1 := hSw.cell p1 (by simp); have d0 := hSw.cell c0 (by simp); have d1 := hSw.cell c1 (by simp); have d2 := hSw.cell c2 (by simp); have d3 := hSw.cell c3 (by simp); go_simp; try with_reducible rfl
          try simp only [Act.put, List.setIfInBounds_toArray, List.set_cons_zero, List.set_cons_succ]
          refine wpAnyH_take (i := 4) (v := ?_) (List.getElem?_toArray.trans rfl) (by kernel_rfl) (by kernel_rfl) (by kernel_rfl) (fun _ _ _ h => h) (Or.inl ⟨by rfl, ?_⟩) hHeld ?_
          rotate_left
          · intro w' hSw; have q1 := hSw.cell p1 (by simp); have d0 := hSw.cell c0 (by simp); have d1 := hSw.cell c1 (by simp); have d2 := hSw.cell c2 (by simp); have d3 := hSw.cell c3 (by simp); go_simp; try with_reducible rfl
          try simp only [Act.put, List.setIfInBounds_toArray, List.set_cons_zero, List.set_cons_succ]
          refine wpAnyH_ready (rs := [5]) (by kernel_rfl) (by simp) ?_
          refine AllReadyH.cons (List.getElem?_toArray.trans rfl) (fun K hK => ?_) AllReadyH.nil
          go_simp
          go_at_call 29
          (with_reducible refine (HX.out _).mono ?_)
          rintro e w2 ⟨rfl, g2⟩
          refine hK.out _ _ (gb_trans hHeld g2) (fun hHeld => ?_)
          clear hK K
          try simp only [Act.put, List.setIfInBounds_toArray, List.set_cons_zero, List.set_cons_succ]
          refine wpAnyH_take (i := 6) (v := ?_) (List.getElem?_toArray.trans rfl) (by kernel_rfl) (by kernel_rfl) (by kernel_rfl) (fun _ _ _ h => h) (Or.inl ⟨by rfl, ?_⟩) hHeld ?_
          rotate_left
          · intro w' hSw; have q1 := hSw.cell p1 (by simp); have d0 := hSw.cell c0 (by simp); have d1 := hSw.cell c1 (by simp); have d2 := hSw.cell c2 (by simp); have d3 := hSw.cell c3 (by simp); go_simp; try with_reducible rfl
          try simp only [Act.put, List.setIfInBounds_toArray, List.set_cons_zero, List.set_cons_succ]
          refine wpAnyH_take (i := 7) (v := ?_) (List.getElem?_toArray.trans rfl) (by kernel_rfl) (by kernel_rfl) (by kernel_rfl) (fun _ _ _ h => h) (Or.inl ⟨by rfl, ?_⟩) hHeld ?_
          rotate_left
          · intro w' hSw; have q1 := hSw.cell p1 (by simp); have d0 := hSw.cell c0 (by simp); have d1 := hSw.cell c1 (by simp); have d2 := hSw.cell c2 (by simp); have d3 := hSw.cell c3 (by simp); go_simp; try with_reducible rfl
          try simp only [Act.put, List.setIfInBounds_toArray, List.set_cons_zero, List.set_cons_succ]
          refine wpAnyH_take (i := 8) (v := undef) (List.getElem?_toArray.trans rfl) (by kernel_rfl) (by kernel_rfl) (by kernel_rfl) (fun _ _ _ h => h) (Or.inr ⟨by rfl, rfl⟩) hHeld ?_
          try simp only [Act.put, List.setIfInBounds_toArray, List.set_cons_zero, List.set_cons_succ]
          refine wpAnyH_take (i := 9) (v := undef) (List.getElem?_toArray.trans rfl) (by kernel_rfl) (by kernel_rfl) (by kernel_rfl) (fun _ _ _ h => h) (Or.inr ⟨by rfl, rfl⟩) hHeld ?_
          try simp only [Act.put, List.setIfInBounds_toArray, List.set_cons_zero, List.set_cons_succ]
          refine wpAnyH_take (i := 10) (v := undef) (List.getElem?_toArray.trans rfl) (by kernel_rfl) (by kernel_rfl) (by kernel_rfl) (fun _ _ _ h => h) (Or.inr ⟨by rfl, rfl⟩) hHeld ?_
          try simp only [Act.put, List.setIfInBounds_toArray, List.set_cons_zero, List.set_cons_succ]
          refine wpAnyH_take (i := 11) (v := undef) (List.getElem?_toArray.trans rfl) (by kernel_rfl) (by kernel_rfl) (by kernel_rfl) (fun _ _ _ h => h) (Or.inr ⟨by rfl, rfl⟩) hHeld ?_
          try simp only [Act.put, List.setIfInBounds_toArray, List.set_cons_zero, List.set_cons_succ]
          refine wpAnyH_take (i := 12) (v := undef) (List.getElem?_toArray.trans rfl) (by kernel_rfl) (by kernel_rfl) (by kernel_rfl) (fun _ _ _ h => h) (Or.inr ⟨by rfl, rfl⟩) hHeld ?_
          try simp only [Act.put, List.setIfInBounds_toArray, List.set_cons_zero, List.set_cons_succ]
          refine wpAnyH_take (i := 13) (v := undef) (List.getElem?_toArray.trans rfl) (by kernel_rfl) (by kernel_rfl) (by kernel_rfl) (fun _ _ _ h => h) (Or.inr ⟨by rfl, rfl⟩) hHeld ?_
          try simp only [Act.put, List.setIfInBounds_toArray, List.set_cons_zero, List.set_cons_succ]
          refine wpAnyH_take (i := 14) (v := undef) (List.getElem?_toArray.trans rfl) (by kernel_rfl) (by kernel_rfl) (by kernel_rfl) (fun _ _ _ h => h) (Or.inr ⟨by rfl, rfl⟩) hHeld ?_
          try simp only [Act.put, List.setIfInBounds_toArray, List.set_cons_zero, List.set_cons_succ]
          refine wpAnyH_take (i := 15) (v := undef) (List.getElem?_toArray.trans rfl) (by kernel_rfl) (by kernel_rfl) (by kernel_rfl) (fun _ _ _ h => h) (Or.inr ⟨by rfl, rfl⟩) hHeld ?_
          try simp only [Act.put, List.setIfInBounds_toArray, List.set_cons_zero, List.set_cons_succ]
          refine wpAnyH_take (i := 16) (v := undef) (List.getElem?_toArray.trans rfl) (by kernel_rfl) (by kernel_rfl) (by kernel_rfl) (fun _ _ _ h => h) (Or.inr ⟨by rfl, rfl⟩) hHeld ?_
          try simp only [Act.put, List.setIfInBounds_toArray, List.set_cons_zero, List.set_cons_succ]
          refine wpAnyH_take (i := 17) (v := undef) (List.getElem?_toArray.trans rfl) (by kernel_rfl) (by kernel_rfl) (by kernel_rfl) (fun _ _ _ h => h) (Or.inr ⟨by rfl, rfl⟩) hHeld ?_
          try simp only [Act.put, List.setIfInBounds_toArray, List.set_cons_zero, List.set_cons_succ]
          refine wpAnyH_take (i := 18) (v := undef) (List.getElem?_toArray.trans rfl) (by kernel_rfl) (by kernel_rfl) (by kernel_rfl) (fun _ _ _ h => h) (Or.inr ⟨by rfl, rfl⟩) hHeld ?_
          try simp only [Act.put, List.setIfInBounds_toArray, List.set_cons_zero, List.set_cons_succ]
          refine wpAnyH_take (i := 19) (v := undef) (List.getElem?_toArray.trans rfl) (by kernel_rfl) (by kernel_rfl) (by kernel_rfl) (fun _ _ _ h => h) (Or.inr ⟨by rfl, rfl⟩) hHeld ?_
          try simp only [Act.put, List.setIfInBounds_toArray, List.set_cons_zero, List.set_cons_succ]
          refine wpAnyH_take (i := 20) (v := undef) (List.getElem?_toArray.trans rfl) (by kernel_rfl) (by kernel_rfl) (by kernel_rfl) (fun _ _ _ h => h) (Or.inr ⟨by rfl, rfl⟩) hHeld ?_
          try simp only [Act.put, List.setIfInBounds_toArray, List.set_cons_zero, List.set_cons_succ]
          refine wpAnyH_take (i := 21) (v := undef) (List.getElem?_toArray.trans rfl) (by kernel_rfl) (by kernel_rfl) (by kernel_rfl) (fun _ _ _ h => h) (Or.inr ⟨by rfl, rfl⟩) hHeld ?_
          try simp only [Act.put, List.setIfInBounds_toArray, List.set_cons_zero, List.set_cons_succ]
          refine wpAnyH_take (i := 22) (v := undef) (List.getElem?_toArray.trans rfl) (by kernel_rfl) (by kernel_rfl) (by kernel_rfl) (fun _ _ _ h => h) (Or.inr ⟨by rfl, rfl⟩) hHeld ?_
          try simp only [Act.put, List.setIfInBounds_toArray, List.set_cons_zero, List.set_cons_succ]
          refine wpAnyH_take (i := 23) (v := undef) (List.getElem?_toArray.trans rfl) (by kernel_rfl) (by kernel_rfl) (by kernel_rfl) (fun _ _ _ h => h) (Or.inr ⟨by rfl, rfl⟩) hHeld ?_
          try simp only [Act.put, List.setIfInBounds_toArray, List.set_cons_zero, List.set_cons_succ]
          refine wpAnyH_take (i := 24) (v := undef) (List.getElem?_toArray.trans rfl) (by kernel_rfl) (by kernel_rfl) (by kernel_rfl) (fun _ _ _ h => h) (Or.inr ⟨by rfl, rfl⟩) hHeld ?_
          try simp only [Act.put, List.setIfInBounds_toArray, List.set_cons_zero, List.set_cons_succ]
          refine wpAnyH_take (i := 25) (v := undef) (List.getElem?_toArray.trans rfl) (by kernel_rfl) (by kernel_rfl) (by kernel_rfl) (fun _ _ _ h => h) (Or.inr ⟨by rfl, rfl⟩) hHeld ?_
          try simp only [Act.put, List.setIfInBounds_toArray, List.set_cons_zero, List.set_cons_succ]
          refine wpAnyH_take (i := 26) (v := ?_) (List.getElem?_toArray.trans rfl) (by kernel_rfl) (by kernel_rfl) (by kernel_rfl) (fun _ _ _ h => h) (Or.inl ⟨by rfl, ?_⟩) hHeld ?_
          rotate_left
          · intro w' hSw; have q1 := hSw.cell p1 (by simp); have d0 := hSw.cell c0 (by simp); have d1 := hSw.cell c1 (by simp); have d2 := hSw.cell c2 (by simp); have d3 := hSw.cell c3 (by simp); go_simp; try with_reducible rfl
          try simp only [Act.put, List.setIfInBounds_toArray, List.set_cons_zero, List.set_cons_succ]
          refine wpAnyH_done (by kernel_rfl) ?_ _
          refine NoPanic.normal ?_
          go_wp2
          go_ret
          exact ⟨ret_b (HBAD.out _ _).symm, gb_trans g0 (gb_trans gr hHeld)⟩
        · have HX : Hid (∀ W, Calls Tryz.prog 29 #[.agg #[.string x.key, .string x.val, .int .i64 x.fi, .int .i64 x.lo]] W fun e w' => e = .returned (.bool true) ∧ W.grownBy w' none) := Lib.hid (fun W => by have h := celled_any x.key x.val x.fi x.lo W; rw [hpx] at h; exact h)
          have HOK := Lib.hid hpx
          clear hpx
          rcases Nat.eq_zero_or_pos k with hk0 | hk0
          · have hkp : decide (0 < k) = false := by rw [hk0]; rfl
            have HK0 := Lib.hid hk0
            clear hk0
            go_upto_region 5 with fail
            refine wp_region_noPanic ?_
            refine wp_region_held_drew (S := fun w' => wr.grownBy w' none) (by kernel_rfl) (gb_drew _ _) (fun hHeld => ?_)
            refine wpAnyH_take (i := 0) (v := ?_) (List.getElem?_toArray.trans rfl) (by kernel_rfl) (by kernel_rfl) (by kernel_rfl) (fun _ _ _ h => h) (Or.inl ⟨by rfl, ?_⟩) hHeld ?_
            rotate_left
            · intro w' hSw; have q1 := hSw.cell p1 (by simp); have d0 := hSw.cell c0 (by simp); have d1 := hSw.cell c1 (by simp); have d2 := hSw.cell c2 (by simp); have d3 := hSw.cell c3 (by simp); go_simp; try with_reducible rfl
            try simp only [Act.put, List.setIfInBounds_toArray, List.set_cons_zero, List.set_cons_succ]
            refine wpAnyH_take (i := 1) (v := ?_) (List.getElem?_toArray.trans rfl) (by kernel_rfl) (by kernel_rfl) (by kernel_rfl) (fun _ _ _ h => h) (Or.inl ⟨by rfl, ?_⟩) hHeld ?_
            rotate_left
            · intro w' hSw; have q1 := hSw.cell p1 (by simp); have d0 := hSw.cell c0 (by simp); have d1 := hSw.cell c1 (by simp); have d2 := hSw.cell c2 (by simp); have d3 := hSw.cell c3 (by simp); go_simp; try with_reducible rfl
            try simp only [Act.put, List.setIfInBounds_toArray, List.set_cons_zero, List.set_cons_succ]
            refine wpAnyH_take (i := 2) (v := ?_) (List.getElem?_toArray.trans rfl) (by kernel_rfl) (by kernel_rfl) (by kernel_rfl) (fun _ _ _ h => h) (Or.inl ⟨by rfl, ?_⟩) hHeld ?_
            rotate_left
            · intro w' hSw; have q1 := hSw.cell p1 (by simp); have d0 := hSw.cell c0 (by simp); have d1 := hSw.cell c1 (by simp); have d2 := hSw.cell c2 (by simp); have d3 := hSw.cell c3 (by simp); go_simp; try with_reducible rfl
            try simp only [Act.put, List.setIfInBounds_toArray, List.set_cons_zero, List.set_cons_succ]
            refine wpAnyH_take (i := 3) (v := ?_) (List.getElem?_toArray.trans rfl) (by kernel_rfl) (by kernel_rfl) (by kernel_rfl) (fun _ _ _ h => h) (Or.inl ⟨by rfl, ?_⟩) hHeld ?_
            rotate_left
            · intro w' hSw; have q1 := hSw.cell p1 (by simp); have d0 := hSw.cell c0 (by simp); have d1 := hSw.cell c1 (by simp); have d2 := hSw.cell c2 (by simp); have d3 := hSw.cell c3 (by simp); go_simp; try with_reducible rfl
            try simp only [Act.put, List.setIfInBounds_toArray, List.set_cons_zero, List.set_cons_succ]
            refine wpAnyH_take (i := 4) (v := ?_) (List.getElem?_toArray.trans rfl) (by kernel_rfl) (by kernel_rfl) (by kernel_rfl) (fun _ _ _ h => h) (Or.inl ⟨by rfl, ?_⟩) hHeld ?_
            rotate_left
            · intro w' hSw; have q1 := hSw.cell p1 (by simp); have d0 := hSw.cell c0 (by simp); have d1 := hSw.cell c1 (by simp); have d2 := hSw.cell c2 (by simp); have d3 := hSw.cell c3 (by simp); go_simp; try with_reducible rfl
            try simp only [Act.put, List.setIfInBounds_toArray, List.set_cons_zero, List.set_cons_succ]
            refine wpAnyH_ready (rs := [5]) (by kernel_rfl) (by simp) ?_
            refine AllReadyH.cons (List.getElem?_toArray.trans rfl) (fun K hK => ?_) AllReadyH.nil
            go_simp
            go_at_call 29
            (with_reducible refine (HX.out _).mono ?_)
            rintro e w2 ⟨rfl, g2⟩
            refine hK.out _ _ (gb_trans hHeld g2) (fun hHeld => ?_)
            clear hK K
            try simp only [Act.put, List.setIfInBounds_toArray, List.set_cons_zero, List.set_cons_succ]
            refine wpAnyH_take (i := 6) (v := ?_) (List.getElem?_toArray.trans rfl) (by kernel_rfl) (by kernel_rfl) (by kernel_rfl) (fun _ _ _ h => h) (Or.inl ⟨by rfl, ?_⟩) hHeld ?_
            rotate_left
            · intro w' hSw; have q1 := hSw.cell p1 (by simp); have d0 := hSw.cell c0 (by simp); have d1 := hSw.cell c1 (by simp); have d2 := hSw.cell c2 (by simp); have d3 := hSw.cell c3 (by simp); go_simp; try with_reducible rfl
            try simp only [Act.put, List.setIfInBounds_toArray, List.set_cons_zero, List.set_cons_succ]
            refine wpAnyH_take (i := 7) (v := ?_) (List.getElem?_toArray.trans rfl) (by kernel_rfl) (by kernel_rfl) (by kernel_rfl) (fun _ _ _ h => h) (Or.inl ⟨by rfl, ?_⟩) hHeld ?_
            rotate_left
            · intro w' hSw; have q1 := hSw.cell p1 (by simp); have d0 := hSw.cell c0 (by simp); have d1 := hSw.cell c1 (by simp); have d2 := hSw.cell c2 (by simp); have d3 := hSw.cell c3 (by simp); go_simp; try with_reducible rfl
            try simp only [Act.put, List.setIfInBounds_toArray, List.set_cons_zero, List.set_cons_succ]
            refine wpAnyH_take (i := 8) (v := ?_) (List.getElem?_toArray.trans rfl) (by kernel_rfl) (by kernel_rfl) (by kernel_rfl) (fun _ _ _ h => h) (Or.inl ⟨by rfl, ?_⟩) hHeld ?_
            rotate_left
            · intro w' hSw; have q1 := hSw.cell p1 (by simp); have d0 := hSw.cell c0 (by simp); have d1 := hSw.cell c1 (by simp); have d2 := hSw.cell c2 (by simp); have d3 := hSw.cell c3 (by simp); go_simp; try with_reducible rfl
            try simp only [Act.put, List.setIfInBounds_toArray, List.set_cons_zero, List.set_cons_succ]
            refine wpAnyH_take (i := 9) (v := ?_) (List.getElem?_toArray.trans rfl) (by kernel_rfl) (by kernel_rfl) (by kernel_rfl) (fun _ _ _ h => h) (Or.inl ⟨by rfl, ?_⟩) hHeld ?_
            rotate_left
            · intro w' hSw; have q1 := hSw.cell p1 (by simp); have d0 := hSw.cell c0 (by simp); have d1 := hSw.cell c1 (by simp); have d2 := hSw.cell c2 (by simp); have d3 := hSw.cell c3 (by simp); go_simp; try with_reducible rfl
            try simp only [Act.put, List.setIfInBounds_toArray, List.set_cons_zero, List.set_cons_succ]
            refine wpAnyH_take (i := 10) (v := ?_) (List.getElem?_toArray.trans rfl) (by kernel_rfl) (by kernel_rfl) (by kernel_rfl) (fun _ _ _ h => h) (Or.inl ⟨by rfl, ?_⟩) hHeld ?_
            rotate_left
            · intro w' hSw; have q1 := hSw.cell p1 (by simp); have d0 := hSw.cell c0 (by simp); have d1 := hSw.cell c1 (by simp); have d2 := hSw.cell c2 (by simp); have d3 := hSw.cell c3 (by simp); go_simp; try with_reducible rfl
            try simp only [Act.put, List.setIfInBounds_toArray, List.set_cons_zero, List.set_cons_succ]
            refine wpAnyH_take (i := 11) (v := undef) (List.getElem?_toArray.trans rfl) (by kernel_rfl) (by kernel_rfl) (by kernel_rfl) (fun _ _ _ h => h) (Or.inr ⟨by rfl, rfl⟩) hHeld ?_
            try simp only [Act.put, List.setIfInBounds_toArray, List.set_cons_zero, List.set_cons_succ]
            refine wpAnyH_take (i := 12) (v := undef) (List.getElem?_toArray.trans rfl) (by kernel_rfl) (by kernel_rfl) (by kernel_rfl) (fun _ _ _ h => h) (Or.inr ⟨by rfl, rfl⟩) hHeld ?_
            try simp only [Act.put, List.setIfInBounds_toArray, List.set_cons_zero, List.set_cons_succ]
            refine wpAnyH_take (i := 13) (v := undef) (List.getElem?_toArray.trans rfl) (by kernel_rfl) (by kernel_rfl) (by kernel_rfl) (fun _ _ _ h => h) (Or.inr ⟨by rfl, rfl⟩) hHeld ?_
            try simp only [Act.put, List.setIfInBounds_toArray, List.set_cons_zero, List.set_cons_succ]
            refine wpAnyH_take (i := 14) (v := undef) (List.getElem?_toArray.trans rfl) (by kernel_rfl) (by kernel_rfl) (by kernel_rfl) (fun _ _ _ h => h) (Or.inr ⟨by rfl, rfl⟩) hHeld ?_
            try simp only [Act.put, List.setIfInBounds_toArray, List.set_cons_zero, List.set_cons_succ]
            refine wpAnyH_take (i := 15) (v := undef) (List.getElem?_toArray.trans rfl) (by kernel_rfl) (by kernel_rfl) (by kernel_rfl) (fun _ _ _ h => h) (Or.inr ⟨by rfl, rfl⟩) hHeld ?_
            try simp only [Act.put, List.setIfInBounds_toArray, List.set_cons_zero, List.set_cons_succ]
            refine wpAnyH_take (i := 16) (v := undef) (List.getElem?_toArray.trans rfl) (by kernel_rfl) (by kernel_rfl) (by kernel_rfl) (fun _ _ _ h => h) (Or.inr ⟨by rfl, rfl⟩) hHeld ?_
            try simp only [Act.put, List.setIfInBounds_toArray, List.set_cons_zero, List.set_cons_succ]
            refine wpAnyH_take (i := 17) (v := undef) (List.getElem?_toArray.trans rfl) (by kernel_rfl) (by kernel_rfl) (by kernel_rfl) (fun _ _ _ h => h) (Or.inr ⟨by rfl, rfl⟩) hHeld ?_
            try simp only [Act.put, List.setIfInBounds_toArray, List.set_cons_zero, List.set_cons_succ]
            refine wpAnyH_take (i := 18) (v := undef) (List.getElem?_toArray.trans rfl) (by kernel_rfl) (by kernel_rfl) (by kernel_rfl) (fun _ _ _ h => h) (Or.inr ⟨by rfl, rfl⟩) hHeld ?_
            try simp only [Act.put, List.setIfInBounds_toArray, List.set_cons_zero, List.set_cons_succ]
            refine wpAnyH_take (i := 19) (v := undef) (List.getElem?_toArray.trans rfl) (by kernel_rfl) (by kernel_rfl) (by kernel_rfl) (fun _ _ _ h => h) (Or.inr ⟨by rfl, rfl⟩) hHeld ?_
            try simp only [Act.put, List.setIfInBounds_toArray, List.set_cons_zero, List.set_cons_succ]
            refine wpAnyH_take (i := 20) (v := undef) (List.getElem?_toArray.trans rfl) (by kernel_rfl) (by kernel_rfl) (by kernel_rfl) (fun _ _ _ h => h) (Or.inr ⟨by rfl, rfl⟩) hHeld ?_
            try simp only [Act.put, List.setIfInBounds_toArray, List.set_cons_zero, List.set_cons_succ]
            refine wpAnyH_take (i := 21) (v := undef) (List.getElem?_toArray.trans rfl) (by kernel_rfl) (by kernel_rfl) (by kernel_rfl) (fun _ _ _ h => h) (Or.inr ⟨by rfl, rfl⟩) hHeld ?_
            try simp only [Act.put, List.setIfInBounds_toArray, List.set_cons_zero, List.set_cons_succ]
            refine wpAnyH_take (i := 22) (v := undef) (List.getElem?_toArray.trans rfl) (by kernel_rfl) (by kernel_rfl) (by kernel_rfl) (fun _ _ _ h => h) (Or.inr ⟨by rfl, rfl⟩) hHeld ?_
            try simp only [Act.put, List.setIfInBounds_toArray, List.set_cons_zero, List.set_cons_succ]
            refine wpAnyH_take (i := 23) (v := undef) (List.getElem?_toArray.trans rfl) (by kernel_rfl) (by kernel_rfl) (by kernel_rfl) (fun _ _ _ h => h) (Or.inr ⟨by rfl, rfl⟩) hHeld ?_
            try simp only [Act.put, List.setIfInBounds_toArray, List.set_cons_zero, List.set_cons_succ]
            refine wpAnyH_take (i := 24) (v := undef) (List.getElem?_toArray.trans rfl) (by kernel_rfl) (by kernel_rfl) (by kernel_rfl) (fun _ _ _ h => h) (Or.inr ⟨by rfl, rfl⟩) hHeld ?_
            try simp only [Act.put, List.setIfInBounds_toArray, List.set_cons_zero, List.set_cons_succ]
            refine wpAnyH_take (i := 25) (v := ?_) (List.getElem?_toArray.trans rfl) (by kernel_rfl) (by kernel_rfl) (by kernel_rfl) (fun _ _ _ h => h) (Or.inl ⟨by rfl, ?_⟩) hHeld ?_
            rotate_left
            · intro w' hSw; have q1 := hSw.cell p1 (by simp); have d0 := hSw.cell c0 (by simp); have d1 := hSw.cell c1 (by simp); have d2 := hSw.cell c2 (by simp); have d3 := hSw.cell c3 (by simp); go_simp; try with_reducible rfl
            try simp only [Act.put, List.setIfInBounds_toArray, List.set_cons_zero, List.set_cons_succ]
            refine wpAnyH_take (i := 26) (v := ?_) (List.getElem?_toArray.trans rfl) (by kernel_rfl) (by kernel_rfl) (by kernel_rfl) (fun _ _ _ h => h) (Or.inl ⟨by rfl, ?_⟩) hHeld ?_
            rotate_left
            · intro w' hSw; have q1 := hSw.cell p1 (by simp); have d0 := hSw.cell c0 (by simp); have d1 := hSw.cell c1 (by simp); have d2 := hSw.cell c2 (by simp); have d3 := hSw.cell c3 (by simp); go_simp; try with_reducible rfl
            try simp only [Act.put, List.setIfInBounds_toArray, List.set_cons_zero, List.set_cons_succ]
            refine wpAnyH_done (by kernel_rfl) ?_ _
            refine NoPanic.normal ?_
            go_wp2
            go_roundw
            case rel => exact ⟨k + 1, by omega, by go_num, Lib.hid (take_all HGX.out hall.out HOK.out), Lib.hid (rise_one _ (by have := HK0.out; rw [List.length_take]; omega)), gb_trans gr hHeld⟩
            case measure => simp [intOf]; omega
          · obtain ⟨j, rfl⟩ : ∃ j, k = j + 1 := ⟨k - 1, by omega⟩
            obtain ⟨y, hy⟩ : ∃ y, cs[j]? = some y := ⟨_, List.getElem?_eq_getElem (by omega)⟩
            obtain ⟨e0, e1, e2, e3⟩ := cat_of (fun j u h => gr.cell (HH1.out _ rfl j u h) (by simp)) hy
            have HGY := Lib.hid hy
            clear hy
            have hkz : ((j + 1 : Nat) : Int) = (j : Int) + 1 := by omega
            rw [hkz] at hkn ⊢
            have w1 : IntKind.i64.wrap (j : Int) = (j : Int) := IntWalk.i64_in _ (by omega)
            have hj1 : (j : Int) < (cs.length : Int) := by omega
            have hz0 : (0 : Int) ≤ (j : Int) + 1 := by omega
            have hz1 : (0 : Int) < (j : Int) + 1 := by omega
            skip
            rcases hb : ltS y.key x.key with _ | _
            all_goals
              have hq := leq_spell _ _ hb
              have hq2 := geq_spell hb
              have HB := Lib.hid hb
              clear hb
              go_upto_region 5 with fail
              refine wp_region_noPanic ?_
              refine wp_region_held_drew (S := fun w' => wr.grownBy w' none) (by kernel_rfl) (gb_drew _ _) (fun hHeld => ?_)
              refine wpAnyH_take (i := 0) (v := ?_) (List.getElem?_toArray.trans rfl) (by kernel_rfl) (by kernel_rfl) (by kernel_rfl) (fun _ _ _ h => h) (Or.inl ⟨by rfl, ?_⟩) hHeld ?_
              rotate_left
              · intro w' hSw; have q1 := hSw.cell p1 (by simp); have d0 := hSw.cell c0 (by simp); have d1 := hSw.cell c1 (by simp); have d2 := hSw.cell c2 (by simp); have d3 := hSw.cell c3 (by simp); have f0 := hSw.cell e0 (by simp); go_simp; try with_reducible rfl
              try simp only [Act.put, List.setIfInBounds_toArray, List.set_cons_zero, List.set_cons_succ]
              refine wpAnyH_take (i := 1) (v := ?_) (List.getElem?_toArray.trans rfl) (by kernel_rfl) (by kernel_rfl) (by kernel_rfl) (fun _ _ _ h => h) (Or.inl ⟨by rfl, ?_⟩) hHeld ?_
              rotate_left
              · intro w' hSw; have q1 := hSw.cell p1 (by simp); have d0 := hSw.cell c0 (by simp); have d1 := hSw.cell c1 (by simp); have d2 := hSw.cell c2 (by simp); have d3 := hSw.cell c3 (by simp); have f0 := hSw.cell e0 (by simp); go_simp; try with_reducible rfl
              try simp only [Act.put, List.setIfInBounds_toArray, List.set_cons_zero, List.set_cons_succ]
              refine wpAnyH_take (i := 2) (v := ?_) (List.getElem?_toArray.trans rfl) (by kernel_rfl) (by kernel_rfl) (by kernel_rfl) (fun _ _ _ h => h) (Or.inl ⟨by rfl, ?_⟩) hHeld ?_
              rotate_left
              · intro w' hSw; have q1 := hSw.cell p1 (by simp); have d0 := hSw.cell c0 (by simp); have d1 := hSw.cell c1 (by simp); have d2 := hSw.cell c2 (by simp); have d3 := hSw.cell c3 (by simp); have f0 := hSw.cell e0 (by simp); go_simp; try with_reducible rfl
              try simp only [Act.put, List.setIfInBounds_toArray, List.set_cons_zero, List.set_cons_succ]
              refine wpAnyH_take (i := 3) (v := ?_) (List.getElem?_toArray.trans rfl) (by kernel_rfl) (by kernel_rfl) (by kernel_rfl) (fun _ _ _ h => h) (Or.inl ⟨by rfl, ?_⟩) hHeld ?_
              rotate_left
              · intro w' hSw; have q1 := hSw.cell p1 (by simp); have d0 := hSw.cell c0 (by simp); have d1 := hSw.cell c1 (by simp); have d2 := hSw.cell c2 (by simp); have d3 := hSw.cell c3 (by simp); have f0 := hSw.cell e0 (by simp); go_simp; try with_reducible rfl
              try simp only [Act.put, List.setIfInBounds_toArray, List.set_cons_zero, List.set_cons_succ]
              refine wpAnyH_take (i := 4) (v := ?_) (List.getElem?_toArray.trans rfl) (by kernel_rfl) (by kernel_rfl) (by kernel_rfl) (fun _ _ _ h => h) (Or.inl ⟨by rfl, ?_⟩) hHeld ?_
              rotate_left
              · intro w' hSw; have q1 := hSw.cell p1 (by simp); have d0 := hSw.cell c0 (by simp); have d1 := hSw.cell c1 (by simp); have d2 := hSw.cell c2 (by simp); have d3 := hSw.cell c3 (by simp); have f0 := hSw.cell e0 (by simp); go_simp; try with_reducible rfl
              try simp only [Act.put, List.setIfInBounds_toArray, List.set_cons_zero, List.set_cons_succ]
              refine wpAnyH_ready (rs := [5]) (by kernel_rfl) (by simp) ?_
              refine AllReadyH.cons (List.getElem?_toArray.trans rfl) (fun K hK => ?_) AllReadyH.nil
              go_simp
              go_at_call 29
              (with_reducible refine (HX.out _).mono ?_)
              rintro e w2 ⟨rfl, g2⟩
              refine hK.out _ _ (gb_trans hHeld g2) (fun hHeld => ?_)
              clear hK K
              try simp only [Act.put, List.setIfInBounds_toArray, List.set_cons_zero, List.set_cons_succ]
              refine wpAnyH_take (i := 6) (v := ?_) (List.getElem?_toArray.trans rfl) (by kernel_rfl) (by kernel_rfl) (by kernel_rfl) (fun _ _ _ h => h) (Or.inl ⟨by rfl, ?_⟩) hHeld ?_
              rotate_left
              · intro w' hSw; have q1 := hSw.cell p1 (by simp); have d0 := hSw.cell c0 (by simp); have d1 := hSw.cell c1 (by simp); have d2 := hSw.cell c2 (by simp); have d3 := hSw.cell c3 (by simp); have f0 := hSw.cell e0 (by simp); go_simp; try with_reducible rfl
              try simp only [Act.put, List.setIfInBounds_toArray, List.set_cons_zero, List.set_cons_succ]
              refine wpAnyH_take (i := 7) (v := ?_) (List.getElem?_toArray.trans rfl) (by kernel_rfl) (by kernel_rfl) (by kernel_rfl) (fun _ _ _ h => h) (Or.inl ⟨by rfl, ?_⟩) hHeld ?_
              rotate_left
              · intro w' hSw; have q1 := hSw.cell p1 (by simp); have d0 := hSw.cell c0 (by simp); have d1 := hSw.cell c1 (by simp); have d2 := hSw.cell c2 (by simp); have d3 := hSw.cell c3 (by simp); have f0 := hSw.cell e0 (by simp); go_simp; try with_reducible rfl
              try simp only [Act.put, List.setIfInBounds_toArray, List.set_cons_zero, List.set_cons_succ]
              refine wpAnyH_take (i := 8) (v := ?_) (List.getElem?_toArray.trans rfl) (by kernel_rfl) (by kernel_rfl) (by kernel_rfl) (fun _ _ _ h => h) (Or.inl ⟨by rfl, ?_⟩) hHeld ?_
              rotate_left
              · intro w' hSw; have q1 := hSw.cell p1 (by simp); have d0 := hSw.cell c0 (by simp); have d1 := hSw.cell c1 (by simp); have d2 := hSw.cell c2 (by simp); have d3 := hSw.cell c3 (by simp); have f0 := hSw.cell e0 (by simp); go_simp; try with_reducible rfl
              try simp only [Act.put, List.setIfInBounds_toArray, List.set_cons_zero, List.set_cons_succ]
              refine wpAnyH_take (i := 9) (v := ?_) (List.getElem?_toArray.trans rfl) (by kernel_rfl) (by kernel_rfl) (by kernel_rfl) (fun _ _ _ h => h) (Or.inl ⟨by rfl, ?_⟩) hHeld ?_
              rotate_left
              · intro w' hSw; have q1 := hSw.cell p1 (by simp); have d0 := hSw.cell c0 (by simp); have d1 := hSw.cell c1 (by simp); have d2 := hSw.cell c2 (by simp); have d3 := hSw.cell c3 (by simp); have f0 := hSw.cell e0 (by simp); go_simp; try with_reducible rfl
              try simp only [Act.put, List.setIfInBounds_toArray, List.set_cons_zero, List.set_cons_succ]
              refine wpAnyH_take (i := 10) (v := ?_) (List.getElem?_toArray.trans rfl) (by kernel_rfl) (by kernel_rfl) (by kernel_rfl) (fun _ _ _ h => h) (Or.inl ⟨by rfl, ?_⟩) hHeld ?_
              rotate_left
              · intro w' hSw; have q1 := hSw.cell p1 (by simp); have d0 := hSw.cell c0 (by simp); have d1 := hSw.cell c1 (by simp); have d2 := hSw.cell c2 (by simp); have d3 := hSw.cell c3 (by simp); have f0 := hSw.cell e0 (by simp); go_simp; try with_reducible rfl
              try simp only [Act.put, List.setIfInBounds_toArray, List.set_cons_zero, List.set_cons_succ]
              refine wpAnyH_take (i := 11) (v := ?_) (List.getElem?_toArray.trans rfl) (by kernel_rfl) (by kernel_rfl) (by kernel_rfl) (fun _ _ _ h => h) (Or.inl ⟨by rfl, ?_⟩) hHeld ?_
              rotate_left
              · intro w' hSw; have q1 := hSw.cell p1 (by simp); have d0 := hSw.cell c0 (by simp); have d1 := hSw.cell c1 (by simp); have d2 := hSw.cell c2 (by simp); have d3 := hSw.cell c3 (by simp); have f0 := hSw.cell e0 (by simp); go_simp; try with_reducible rfl
              try simp only [Act.put, List.setIfInBounds_toArray, List.set_cons_zero, List.set_cons_succ]
              refine wpAnyH_take (i := 12) (v := ?_) (List.getElem?_toArray.trans rfl) (by kernel_rfl) (by kernel_rfl) (by kernel_rfl) (fun _ _ _ h => h) (Or.inl ⟨by rfl, ?_⟩) hHeld ?_
              rotate_left
              · intro w' hSw; have q1 := hSw.cell p1 (by simp); have d0 := hSw.cell c0 (by simp); have d1 := hSw.cell c1 (by simp); have d2 := hSw.cell c2 (by simp); have d3 := hSw.cell c3 (by simp); have f0 := hSw.cell e0 (by simp); go_simp; try with_reducible rfl
              try simp only [Act.put, List.setIfInBounds_toArray, List.set_cons_zero, List.set_cons_succ]
              refine wpAnyH_take (i := 13) (v := ?_) (List.getElem?_toArray.trans rfl) (by kernel_rfl) (by kernel_rfl) (by kernel_rfl) (fun _ _ _ h => h) (Or.inl ⟨by rfl, ?_⟩) hHeld ?_
              rotate_left
              · intro w' hSw; have q1 := hSw.cell p1 (by simp); have d0 := hSw.cell c0 (by simp); have d1 := hSw.cell c1 (by simp); have d2 := hSw.cell c2 (by simp); have d3 := hSw.cell c3 (by simp); have f0 := hSw.cell e0 (by simp); go_simp; try with_reducible rfl
              try simp only [Act.put, List.setIfInBounds_toArray, List.set_cons_zero, List.set_cons_succ]
              refine wpAnyH_take (i := 14) (v := ?_) (List.getElem?_toArray.trans rfl) (by kernel_rfl) (by kernel_rfl) (by kernel_rfl) (fun _ _ _ h => h) (Or.inl ⟨by rfl, ?_⟩) hHeld ?_
              rotate_left
              · intro w' hSw; have q1 := hSw.cell p1 (by simp); have d0 := hSw.cell c0 (by simp); have d1 := hSw.cell c1 (by simp); have d2 := hSw.cell c2 (by simp); have d3 := hSw.cell c3 (by simp); have f0 := hSw.cell e0 (by simp); go_simp; try with_reducible rfl
              try simp only [Act.put, List.setIfInBounds_toArray, List.set_cons_zero, List.set_cons_succ]
              refine wpAnyH_take (i := 15) (v := ?_) (List.getElem?_toArray.trans rfl) (by kernel_rfl) (by kernel_rfl) (by kernel_rfl) (fun _ _ _ h => h) (Or.inl ⟨by rfl, ?_⟩) hHeld ?_
              rotate_left
              · intro w' hSw; have q1 := hSw.cell p1 (by simp); have d0 := hSw.cell c0 (by simp); have d1 := hSw.cell c1 (by simp); have d2 := hSw.cell c2 (by simp); have d3 := hSw.cell c3 (by simp); have f0 := hSw.cell e0 (by simp); go_simp; try with_reducible rfl
              try simp only [Act.put, List.setIfInBounds_toArray, List.set_cons_zero, List.set_cons_succ]
              refine wpAnyH_take (i := 16) (v := ?_) (List.getElem?_toArray.trans rfl) (by kernel_rfl) (by kernel_rfl) (by kernel_rfl) (fun _ _ _ h => h) (Or.inl ⟨by rfl, ?_⟩) hHeld ?_
              rotate_left
              · intro w' hSw; have q1 := hSw.cell p1 (by simp); have d0 := hSw.cell c0 (by simp); have d1 := hSw.cell c1 (by simp); have d2 := hSw.cell c2 (by simp); have d3 := hSw.cell c3 (by simp); have f0 := hSw.cell e0 (by simp); go_simp; try with_reducible rfl
              try simp only [Act.put, List.setIfInBounds_toArray, List.set_cons_zero, List.set_cons_succ]
              refine wpAnyH_take (i := 17) (v := ?_) (List.getElem?_toArray.trans rfl) (by kernel_rfl) (by kernel_rfl) (by kernel_rfl) (fun _ _ _ h => h) (Or.inl ⟨by rfl, ?_⟩) hHeld ?_
              rotate_left
              · intro w' hSw; have q1 := hSw.cell p1 (by simp); have d0 := hSw.cell c0 (by simp); have d1 := hSw.cell c1 (by simp); have d2 := hSw.cell c2 (by simp); have d3 := hSw.cell c3 (by simp); have f0 := hSw.cell e0 (by simp); go_simp; try with_reducible rfl
              try simp only [Act.put, List.setIfInBounds_toArray, List.set_cons_zero, List.set_cons_succ]
              refine wpAnyH_take (i := 18) (v := ?_) (List.getElem?_toArray.trans rfl) (by kernel_rfl) (by kernel_rfl) (by kernel_rfl) (fun _ _ _ h => h) (Or.inl ⟨by rfl, ?_⟩) hHeld ?_
              rotate_left
              · intro w' hSw; have q1 := hSw.cell p1 (by simp); have d0 := hSw.cell c0 (by simp); have d1 := hSw.cell c1 (by simp); have d2 := hSw.cell c2 (by simp); have d3 := hSw.cell c3 (by simp); have f0 := hSw.cell e0 (by simp); go_simp; try with_reducible rfl
              try simp only [Act.put, List.setIfInBounds_toArray, List.set_cons_zero, List.set_cons_succ]
              refine wpAnyH_take (i := 19) (v := ?_) (List.getElem?_toArray.trans rfl) (by kernel_rfl) (by kernel_rfl) (by kernel_rfl) (fun _ _ _ h => h) (Or.inl ⟨by rfl, ?_⟩) hHeld ?_
              rotate_left
              · intro w' hSw; have q1 := hSw.cell p1 (by simp); have d0 := hSw.cell c0 (by simp); have d1 := hSw.cell c1 (by simp); have d2 := hSw.cell c2 (by simp); have d3 := hSw.cell c3 (by simp); have f0 := hSw.cell e0 (by simp); go_simp; try with_reducible rfl
              try simp only [Act.put, List.setIfInBounds_toArray, List.set_cons_zero, List.set_cons_succ]
              refine wpAnyH_take (i := 20) (v := ?_) (List.getElem?_toArray.trans rfl) (by kernel_rfl) (by kernel_rfl) (by kernel_rfl) (fun _ _ _ h => h) (Or.inl ⟨by rfl, ?_⟩) hHeld ?_
              rotate_left
              · intro w' hSw; have q1 := hSw.cell p1 (by simp); have d0 := hSw.cell c0 (by simp); have d1 := hSw.cell c1 (by simp); have d2 := hSw.cell c2 (by simp); have d3 := hSw.cell c3 (by simp); have f0 := hSw.cell e0 (by simp); go_simp; try with_reducible rfl
              try simp only [Act.put, List.setIfInBounds_toArray, List.set_cons_zero, List.set_cons_succ]
              refine wpAnyH_take (i := 21) (v := ?_) (List.getElem?_toArray.trans rfl) (by kernel_rfl) (by kernel_rfl) (by kernel_rfl) (fun _ _ _ h => h) (Or.inl ⟨by rfl, ?_⟩) hHeld ?_
              rotate_left
              · intro w' hSw; have q1 := hSw.cell p1 (by simp); have d0 := hSw.cell c0 (by simp); have d1 := hSw.cell c1 (by simp); have d2 := hSw.cell c2 (by simp); have d3 := hSw.cell c3 (by simp); have f0 := hSw.cell e0 (by simp); go_simp; try with_reducible rfl
              try simp only [Act.put, List.setIfInBounds_toArray, List.set_cons_zero, List.set_cons_succ]
              refine wpAnyH_take (i := 22) (v := ?_) (List.getElem?_toArray.trans rfl) (by kernel_rfl) (by kernel_rfl) (by kernel_rfl) (fun _ _ _ h => h) (Or.inl ⟨by rfl, ?_⟩) hHeld ?_
              rotate_left
              · intro w' hSw; have q1 := hSw.cell p1 (by simp); have d0 := hSw.cell c0 (by simp); have d1 := hSw.cell c1 (by simp); have d2 := hSw.cell c2 (by simp); have d3 := hSw.cell c3 (by simp); have f0 := hSw.cell e0 (by simp); go_simp; try with_reducible rfl
              try simp only [Act.put, List.setIfInBounds_toArray, List.set_cons_zero, List.set_cons_succ]
              refine wpAnyH_take (i := 23) (v := ?_) (List.getElem?_toArray.trans rfl) (by kernel_rfl) (by kernel_rfl) (by kernel_rfl) (fun _ _ _ h => h) (Or.inl ⟨by rfl, ?_⟩) hHeld ?_
              rotate_left
              · intro w' hSw; have q1 := hSw.cell p1 (by simp); have d0 := hSw.cell c0 (by simp); have d1 := hSw.cell c1 (by simp); have d2 := hSw.cell c2 (by simp); have d3 := hSw.cell c3 (by simp); have f0 := hSw.cell e0 (by simp); go_simp; try with_reducible rfl
              try simp only [Act.put, List.setIfInBounds_toArray, List.set_cons_zero, List.set_cons_succ]
              refine wpAnyH_take (i := 24) (v := ?_) (List.getElem?_toArray.trans rfl) (by kernel_rfl) (by kernel_rfl) (by kernel_rfl) (fun _ _ _ h => h) (Or.inl ⟨by rfl, ?_⟩) hHeld ?_
              rotate_left
              · intro w' hSw; have q1 := hSw.cell p1 (by simp); have d0 := hSw.cell c0 (by simp); have d1 := hSw.cell c1 (by simp); have d2 := hSw.cell c2 (by simp); have d3 := hSw.cell c3 (by simp); have f0 := hSw.cell e0 (by simp); go_simp; try with_reducible rfl
              try simp only [Act.put, List.setIfInBounds_toArray, List.set_cons_zero, List.set_cons_succ]
              refine wpAnyH_take (i := 25) (v := ?_) (List.getElem?_toArray.trans rfl) (by kernel_rfl) (by kernel_rfl) (by kernel_rfl) (fun _ _ _ h => h) (Or.inl ⟨by rfl, ?_⟩) hHeld ?_
              rotate_left
              · intro w' hSw; have q1 := hSw.cell p1 (by simp); have d0 := hSw.cell c0 (by simp); have d1 := hSw.cell c1 (by simp); have d2 := hSw.cell c2 (by simp); have d3 := hSw.cell c3 (by simp); have f0 := hSw.cell e0 (by simp); go_simp; try with_reducible rfl
              try simp only [Act.put, List.setIfInBounds_toArray, List.set_cons_zero, List.set_cons_succ]
              refine wpAnyH_take (i := 26) (v := ?_) (List.getElem?_toArray.trans rfl) (by kernel_rfl) (by kernel_rfl) (by kernel_rfl) (fun _ _ _ h => h) (Or.inl ⟨by rfl, ?_⟩) hHeld ?_
              rotate_left
              · intro w' hSw; have q1 := hSw.cell p1 (by simp); have d0 := hSw.cell c0 (by simp); have d1 := hSw.cell c1 (by simp); have d2 := hSw.cell c2 (by simp); have d3 := hSw.cell c3 (by simp); have f0 := hSw.cell e0 (by simp); go_simp; try with_reducible rfl
              try simp only [Act.put, List.setIfInBounds_toArray, List.set_cons_zero, List.set_cons_succ]
              refine wpAnyH_done (by kernel_rfl) ?_ _
              refine NoPanic.normal ?_
              go_wp2
            · go_ret
              exact ⟨ret_b (mayL_fall (rise_not (show (cs.map Ce.key)[j]? = some (y.key) by simp [HGY.out]) (show (cs.map Ce.key)[j + 1]? = some (x.key) by simp [HGX.out]) HB.out) _ _).symm, gb_trans g0 (gb_trans gr hHeld)⟩
            · go_roundw
              case rel => exact ⟨j + 2, by omega, by go_num, Lib.hid (take_all HGX.out hall.out HOK.out), Lib.hid (rise_on hp.out (show (cs.map Ce.key)[j]? = some (y.key) by simp [HGY.out]) (show (cs.map Ce.key)[j + 1]? = some (x.key) by simp [HGX.out]) HB.out), gb_trans gr hHeld⟩
              case measure => simp [intOf]; omega
    · have hke : k = cs.length := by omega
      subst hke
      have HE := Lib.hid (mayL_end (show ∀ y ∈ cs, cellB y = true by have h := hall.out; rwa [List.take_length] at h) (show riseF (cs.map Ce.key) = true by have h := hp.out; rwa [List.take_of_length_le (by simp)] at h))
      clear hall hp hk
      by_cases h0 : 0 < cs.length
      · have h0z : (0 : Int) < (cs.length : Int) := by omega
        by_cases h2 : n2 = 0
        · subst h2
          by_cases h3 : n3 = 0
          · subst h3
            go_wp2
            go_ret
            exact ⟨ret_b (by rw [HE.out, decide_eq_true h0]; rfl), gb_trans g0 gr⟩
          · have h3z : ((n3 : Int) == 0) = false := by simp; omega
            go_wp2
            go_ret
            exact ⟨ret_b (by rw [HE.out, decide_eq_false h3]; simp), gb_trans g0 gr⟩
        · have h2z : ((n2 : Int) == 0) = false := by simp; omega
          go_wp2
          go_ret
          exact ⟨ret_b (by rw [HE.out, decide_eq_false h2]; simp), gb_trans g0 gr⟩
      · have h0z : ¬ (0 : Int) < (cs.length : Int) := by omega
        go_wp2
        go_ret
        exact ⟨ret_b (by rw [HE.out, decide_eq_false h0]; simp), gb_trans g0 gr⟩
set_option maxRecDepth 100000 in
set_option maxHeartbeats 2000000 in
theorem refMay_I (a b c : Value) (cs : List Ce) (ks : List ByteArray) (is : List Int) (w : World) (ha : Ces w a cs) (hb : Sts w b ks) (hc : Ins w c is) (hl : ks.length ≤ 1000000) (hl3 : is.length ≤ 1000001) :
    Calls Tryz.prog 22 #[.agg #[.bool false, a, b, c]] w fun e w' => e = .returned (.bool (mayI cs.length ks is)) ∧ w.grownBy w' none := by
  obtain ⟨ao, ca, rfl⟩ := Sl.shape ha
  obtain ⟨bo, cb, rfl, hcap2, hlen2, hnil2, hcell2⟩ := hb
  obtain ⟨co, cc, rfl, hcap3, hlen3, hnil3, hcell3⟩ := hc
  have HN2 := Lib.hid (show bo = none → ks.length = 0 from fun e => (hnil2 e).1)
  have HN3 := Lib.hid (show co = none → is.length = 0 from fun e => (hnil3 e).1)
  obtain ⟨w0, hw0, kN, g0, hz⟩ := new1 w 26 #[.bool false, .slice ao cs.length ca, .slice bo ks.length cb, .slice co is.length cc]
  have HH2 := Lib.hid (fun a e j u h => g0.cell (hcell2 a e j u h) (by simp))
  have HH3 := Lib.hid (fun a e j u h => g0.cell (hcell3 a e j u h) (by simp))
  have HW := Lib.hid hw0
  clear ha hlen2 hnil2 hcell2 hlen3 hnil3 hcell3 hw0 hz
  generalize cs.length = n1 at kN HW ⊢
  go_enter Tryz.func22, Tryz.ntmps22
  go_wp2
  rw [← HW.out]
  go_loopw [4] (fun z wr => ∃ k : Nat, k ≤ ks.length ∧ z = .int .i64 (k : Nat) ∧ Hid (∀ y ∈ ks.take k, keyB y = true) ∧ Hid (riseF (ks.take k) = true) ∧ w0.grownBy wr none) (fun z _ => ks.length - (intOf z).toNat)
  case atStart => exact ⟨0, Nat.zero_le _, rfl, Lib.hid (by simp), Lib.hid rfl, gb_refl _ _⟩
  case round =>
    obtain ⟨k, hk, rfl, hall, hp, gr⟩ := hrel
    have p1 := (kN.keep0 gr).cell 1 rfl
    have p2 := (kN.keep0 gr).cell 2 rfl
    have p3 := (kN.keep0 gr).cell 3 rfl
    by_cases hlt : k < ks.length
    · obtain ⟨x, hx⟩ : ∃ x, ks[k]? = some x := ⟨_, List.getElem?_eq_getElem hlt⟩
      cases bo with
      | none => have := HN2.out rfl; omega
      | some a =>
        have c0 := gr.cell (HH2.out _ rfl k _ (show _ = some (.string x) by simp [strsC, hx])) (by simp)
        have HGX := Lib.hid hx
        clear hx
        have hkn : (k : Int) < (ks.length : Int) := by omega
        rcases hpx : keyB x with _ | _
        · have HX : Hid (∀ W, Calls Tryz.prog 30 #[.string x] W fun e w' => e = .returned (.bool false) ∧ W.grownBy w' none) := Lib.hid (fun W => by have h := keyed_any x W; rw [hpx] at h; exact h)
          have HBAD := Lib.hid (mayI_bad HGX.out hpx)
          clear hpx
          go_upto_region 11 with fail
          refine wp_region_noPanic ?_
          refine wp_region_held_drew (S := fun w' => wr.grownBy w' none) (by kernel_rfl) (gb_drew _ _) (fun hHeld => ?_)
          refine wpAnyH_take (i := 0) (v := ?_) (List.getElem?_toArray.trans rfl) (by kernel_rfl) (by kernel_rfl) (by kernel_rfl) (fun _ _ _ h => h) (Or.inl ⟨by rfl, ?_⟩) hHeld ?_
          rotate_left
          · intro w' hSw; have q2 := hSw.cell p2 (by simp); have d0 := hSw.cell c0 (by simp); go_simp; try with_reducible rfl
          try simp only [Act.put, List.setIfInBounds_toArray, List.set_cons_zero, List.set_cons_succ]
          refine wpAnyH_take (i := 1) (v := ?_) (List.getElem?_toArray.trans rfl) (by kernel_rfl) (by kernel_rfl) (by kernel_rfl) (fun _ _ _ h => h) (Or.inl ⟨by rfl, ?_⟩) hHeld ?_
          rotate_left
          · intro w' hSw; have q2 := hSw.cell p2 (by simp); have d0 := hSw.cell c0 (by simp); go_simp; try with_reducible rfl
          try simp only [Act.put, List.setIfInBounds_toArray, List.set_cons_zero, List.set_cons_succ]
          refine wpAnyH_take (i := 2) (v := ?_) (List.getElem?_toArray.trans rfl) (by kernel_rfl) (by kernel_rfl) (by kernel_rfl) (fun _ _ _ h => h) (Or.inl ⟨by rfl, ?_⟩) hHeld ?_
          rotate_left
          · intro w' hSw; have q2 := hSw.cell p2 (by simp); have d0 := hSw.cell c0 (by simp); go_simp; try with_reducible rfl
          try simp only [Act.put, List.setIfInBounds_toArray, List.set_cons_zero, List.set_cons_succ]
          refine wpAnyH_take (i := 3) (v := ?_) (List.getElem?_toArray.trans rfl) (by kernel_rfl) (by kernel_rfl) (by kernel_rfl) (fun _ _ _ h => h) (Or.inl ⟨by rfl, ?_⟩) hHeld ?_
          rotate_left
          · intro w' hSw; have q2 := hSw.cell p2 (by simp); have d0 := hSw.cell c0 (by simp); go_simp; try with_reducible rfl
          try simp only [Act.put, List.setIfInBounds_toArray, List.set_cons_zero, List.set_cons_succ]
          refine wpAnyH_take (i := 4) (v := ?_) (List.getElem?_toArray.trans rfl) (by kernel_rfl) (by kernel_rfl) (by kernel_rfl) (fun _ _ _ h => h) (Or.inl ⟨by rfl, ?_⟩) hHeld ?_
          rotate_left
          · intro w' hSw; have q2 := hSw.cell p2 (by simp); have d0 := hSw.cell c0 (by simp); go_simp; try with_reducible rfl
          try simp only [Act.put, List.setIfInBounds_toArray, List.set_cons_zero, List.set_cons_succ]
          refine wpAnyH_ready (rs := [5]) (by kernel_rfl) (by simp) ?_
          refine AllReadyH.cons (List.getElem?_toArray.trans rfl) (fun K hK => ?_) AllReadyH.nil
          go_simp
          go_at_call 30
          (with_reducible refine (HX.out _).mono ?_)
          rintro e w2 ⟨rfl, g2⟩
          refine hK.out _ _ (gb_trans hHeld g2) (fun hHeld => ?_)
          clear hK K
          try simp only [Act.put, List.setIfInBounds_toArray, List.set_cons_zero, List.set_cons_succ]
          refine wpAnyH_take (i := 6) (v := ?_) (List.getElem?_toArray.trans rfl) (by kernel_rfl) (by kernel_rfl) (by kernel_rfl) (fun _ _ _ h => h) (Or.inl ⟨by rfl, ?_⟩) hHeld ?_
          rotate_left
          · intro w' hSw; have q2 := hSw.cell p2 (by simp); have d0 := hSw.cell c0 (by simp); go_simp; try with_reducible rfl
          try simp only [Act.put, List.setIfInBounds_toArray, List.set_cons_zero, List.set_cons_succ]
          refine wpAnyH_take (i := 7) (v := ?_) (List.getElem?_toArray.trans rfl) (by kernel_rfl) (by kernel_rfl) (by kernel_rfl) (fun _ _ _ h => h) (Or.inl ⟨by rfl, ?_⟩) hHeld ?_
          rotate_left
          · intro w' hSw; have q2 := hSw.cell p2 (by simp); have d0 := hSw.cell c0 (by simp); go_simp; try with_reducible rfl
          try simp only [Act.put, List.setIfInBounds_toArray, List.set_cons_zero, List.set_cons_succ]
          refine wpAnyH_take (i := 8) (v := undef) (List.getElem?_toArray.trans rfl) (by kernel_rfl) (by kernel_rfl) (by kernel_rfl) (fun _ _ _ h => h) (Or.inr ⟨by rfl, rfl⟩) hHeld ?_
          try simp only [Act.put, List.setIfInBounds_toArray, List.set_cons_zero, List.set_cons_succ]
          refine wpAnyH_take (i := 9) (v := undef) (List.getElem?_toArray.trans rfl) (by kernel_rfl) (by kernel_rfl) (by kernel_rfl) (fun _ _ _ h => h) (Or.inr ⟨by rfl, rfl⟩) hHeld ?_
          try simp only [Act.put, List.setIfInBounds_toArray, List.set_cons_zero, List.set_cons_succ]
          refine wpAnyH_take (i := 10) (v := undef) (List.getElem?_toArray.trans rfl) (by kernel_rfl) (by kernel_rfl) (by kernel_rfl) (fun _ _ _ h => h) (Or.inr ⟨by rfl, rfl⟩) hHeld ?_
          try simp only [Act.put, List.setIfInBounds_toArray, List.set_cons_zero, List.set_cons_succ]
          refine wpAnyH_take (i := 11) (v := undef) (List.getElem?_toArray.trans rfl) (by kernel_rfl) (by kernel_rfl) (by kernel_rfl) (fun _ _ _ h => h) (Or.inr ⟨by rfl, rfl⟩) hHeld ?_
          try simp only [Act.put, List.setIfInBounds_toArray, List.set_cons_zero, List.set_cons_succ]
          refine wpAnyH_take (i := 12) (v := undef) (List.getElem?_toArray.trans rfl) (by kernel_rfl) (by kernel_rfl) (by kernel_rfl) (fun _ _ _ h => h) (Or.inr ⟨by rfl, rfl⟩) hHeld ?_
          try simp only [Act.put, List.setIfInBounds_toArray, List.set_cons_zero, List.set_cons_succ]
          refine wpAnyH_take (i := 13) (v := undef) (List.getElem?_toArray.trans rfl) (by kernel_rfl) (by kernel_rfl) (by kernel_rfl) (fun _ _ _ h => h) (Or.inr ⟨by rfl, rfl⟩) hHeld ?_
          try simp only [Act.put, List.setIfInBounds_toArray, List.set_cons_zero, List.set_cons_succ]
          refine wpAnyH_take (i := 14) (v := undef) (List.getElem?_toArray.trans rfl) (by kernel_rfl) (by kernel_rfl) (by kernel_rfl) (fun _ _ _ h => h) (Or.inr ⟨by rfl, rfl⟩) hHeld ?_
          try simp only [Act.put, List.setIfInBounds_toArray, List.set_cons_zero, List.set_cons_succ]
          refine wpAnyH_take (i := 15) (v := undef) (List.getElem?_toArray.trans rfl) (by kernel_rfl) (by kernel_rfl) (by kernel_rfl) (fun _ _ _ h => h) (Or.inr ⟨by rfl, rfl⟩) hHeld ?_
          try simp only [Act.put, List.setIfInBounds_toArray, List.set_cons_zero, List.set_cons_succ]
          refine wpAnyH_take (i := 16) (v := undef) (List.getElem?_toArray.trans rfl) (by kernel_rfl) (by kernel_rfl) (by kernel_rfl) (fun _ _ _ h => h) (Or.inr ⟨by rfl, rfl⟩) hHeld ?_
          try simp only [Act.put, List.setIfInBounds_toArray, List.set_cons_zero, List.set_cons_succ]
          refine wpAnyH_take (i := 17) (v := undef) (List.getElem?_toArray.trans rfl) (by kernel_rfl) (by kernel_rfl) (by kernel_rfl) (fun _ _ _ h => h) (Or.inr ⟨by rfl, rfl⟩) hHeld ?_
          try simp only [Act.put, List.setIfInBounds_toArray, List.set_cons_zero, List.set_cons_succ]
          refine wpAnyH_take (i := 18) (v := undef) (List.getElem?_toArray.trans rfl) (by kernel_rfl) (by kernel_rfl) (by kernel_rfl) (fun _ _ _ h => h) (Or.inr ⟨by rfl, rfl⟩) hHeld ?_
          try simp only [Act.put, List.setIfInBounds_toArray, List.set_cons_zero, List.set_cons_succ]
          refine wpAnyH_take (i := 19) (v := undef) (List.getElem?_toArray.trans rfl) (by kernel_rfl) (by kernel_rfl) (by kernel_rfl) (fun _ _ _ h => h) (Or.inr ⟨by rfl, rfl⟩) hHeld ?_
          try simp only [Act.put, List.setIfInBounds_toArray, List.set_cons_zero, List.set_cons_succ]
          refine wpAnyH_take (i := 20) (v := undef) (List.getElem?_toArray.trans rfl) (by kernel_rfl) (by kernel_rfl) (by kernel_rfl) (fun _ _ _ h => h) (Or.inr ⟨by rfl, rfl⟩) hHeld ?_
          try simp only [Act.put, List.setIfInBounds_toArray, List.set_cons_zero, List.set_cons_succ]
          refine wpAnyH_take (i := 21) (v := undef) (List.getElem?_toArray.trans rfl) (by kernel_rfl) (by kernel_rfl) (by kernel_rfl) (fun _ _ _ h => h) (Or.inr ⟨by rfl, rfl⟩) hHeld ?_
          try simp only [Act.put, List.setIfInBounds_toArray, List.set_cons_zero, List.set_cons_succ]
          refine wpAnyH_take (i := 22) (v := undef) (List.getElem?_toArray.trans rfl) (by kernel_rfl) (by kernel_rfl) (by kernel_rfl) (fun _ _ _ h => h) (Or.inr ⟨by rfl, rfl⟩) hHeld ?_
          try simp only [Act.put, List.setIfInBounds_toArray, List.set_cons_zero, List.set_cons_succ]
          refine wpAnyH_take (i := 23) (v := undef) (List.getElem?_toArray.trans rfl) (by kernel_rfl) (by kernel_rfl) (by kernel_rfl) (fun _ _ _ h => h) (Or.inr ⟨by rfl, rfl⟩) hHeld ?_
          try simp only [Act.put, List.setIfInBounds_toArray, List.set_cons_zero, List.set_cons_succ]
          refine wpAnyH_take (i := 24) (v := ?_) (List.getElem?_toArray.trans rfl) (by kernel_rfl) (by kernel_rfl) (by kernel_rfl) (fun _ _ _ h => h) (Or.inl ⟨by rfl, ?_⟩) hHeld ?_
          rotate_left
          · intro w' hSw; have q2 := hSw.cell p2 (by simp); have d0 := hSw.cell c0 (by simp); go_simp; try with_reducible rfl
          try simp only [Act.put, List.setIfInBounds_toArray, List.set_cons_zero, List.set_cons_succ]
          refine wpAnyH_done (by kernel_rfl) ?_ _
          refine NoPanic.normal ?_
          go_wp2
          go_ret
          exact ⟨ret_b (HBAD.out _ _).symm, gb_trans g0 (gb_trans gr hHeld)⟩
        · have HX : Hid (∀ W, Calls Tryz.prog 30 #[.string x] W fun e w' => e = .returned (.bool true) ∧ W.grownBy w' none) := Lib.hid (fun W => by have h := keyed_any x W; rw [hpx] at h; exact h)
          have HOK := Lib.hid hpx
          clear hpx
          rcases Nat.eq_zero_or_pos k with hk0 | hk0
          · have hkp : decide (0 < k) = false := by rw [hk0]; rfl
            have HK0 := Lib.hid hk0
            clear hk0
            go_upto_region 11 with fail
            refine wp_region_noPanic ?_
            refine wp_region_held_drew (S := fun w' => wr.grownBy w' none) (by kernel_rfl) (gb_drew _ _) (fun hHeld => ?_)
            refine wpAnyH_take (i := 0) (v := ?_) (List.getElem?_toArray.trans rfl) (by kernel_rfl) (by kernel_rfl) (by kernel_rfl) (fun _ _ _ h => h) (Or.inl ⟨by rfl, ?_⟩) hHeld ?_
            rotate_left
            · intro w' hSw; have q2 := hSw.cell p2 (by simp); have d0 := hSw.cell c0 (by simp); go_simp; try with_reducible rfl
            try simp only [Act.put, List.setIfInBounds_toArray, List.set_cons_zero, List.set_cons_succ]
            refine wpAnyH_take (i := 1) (v := ?_) (List.getElem?_toArray.trans rfl) (by kernel_rfl) (by kernel_rfl) (by kernel_rfl) (fun _ _ _ h => h) (Or.inl ⟨by rfl, ?_⟩) hHeld ?_
            rotate_left
            · intro w' hSw; have q2 := hSw.cell p2 (by simp); have d0 := hSw.cell c0 (by simp); go_simp; try with_reducible rfl
            try simp only [Act.put, List.setIfInBounds_toArray, List.set_cons_zero, List.set_cons_succ]
            refine wpAnyH_take (i := 2) (v := ?_) (List.getElem?_toArray.trans rfl) (by kernel_rfl) (by kernel_rfl) (by kernel_rfl) (fun _ _ _ h => h) (Or.inl ⟨by rfl, ?_⟩) hHeld ?_
            rotate_left
            · intro w' hSw; have q2 := hSw.cell p2 (by simp); have d0 := hSw.cell c0 (by simp); go_simp; try with_reducible rfl
            try simp only [Act.put, List.setIfInBounds_toArray, List.set_cons_zero, List.set_cons_succ]
            refine wpAnyH_take (i := 3) (v := ?_) (List.getElem?_toArray.trans rfl) (by kernel_rfl) (by kernel_rfl) (by kernel_rfl) (fun _ _ _ h => h) (Or.inl ⟨by rfl, ?_⟩) hHeld ?_
            rotate_left
            · intro w' hSw; have q2 := hSw.cell p2 (by simp); have d0 := hSw.cell c0 (by simp); go_simp; try with_reducible rfl
            try simp only [Act.put, List.setIfInBounds_toArray, List.set_cons_zero, List.set_cons_succ]
            refine wpAnyH_take (i := 4) (v := ?_) (List.getElem?_toArray.trans rfl) (by kernel_rfl) (by kernel_rfl) (by kernel_rfl) (fun _ _ _ h => h) (Or.inl ⟨by rfl, ?_⟩) hHeld ?_
            rotate_left
            · intro w' hSw; have q2 := hSw.cell p2 (by simp); have d0 := hSw.cell c0 (by simp); go_simp; try with_reducible rfl
            try simp only [Act.put, List.setIfInBounds_toArray, List.set_cons_zero, List.set_cons_succ]
            refine wpAnyH_ready (rs := [5]) (by kernel_rfl) (by simp) ?_
            refine AllReadyH.cons (List.getElem?_toArray.trans rfl) (fun K hK => ?_) AllReadyH.nil
            go_simp
            go_at_call 30
            (with_reducible refine (HX.out _).mono ?_)
            rintro e w2 ⟨rfl, g2⟩
            refine hK.out _ _ (gb_trans hHeld g2) (fun hHeld => ?_)
            clear hK K
            try simp only [Act.put, List.setIfInBounds_toArray, List.set_cons_zero, List.set_cons_succ]
            refine wpAnyH_take (i := 6) (v := ?_) (List.getElem?_toArray.trans rfl) (by kernel_rfl) (by kernel_rfl) (by kernel_rfl) (fun _ _ _ h => h) (Or.inl ⟨by rfl, ?_⟩) hHeld ?_
            rotate_left
            · intro w' hSw; have q2 := hSw.cell p2 (by simp); have d0 := hSw.cell c0 (by simp); go_simp; try with_reducible rfl
            try simp only [Act.put, List.setIfInBounds_toArray, List.set_cons_zero, List.set_cons_succ]
            refine wpAnyH_take (i := 7) (v := ?_) (List.getElem?_toArray.trans rfl) (by kernel_rfl) (by kernel_rfl) (by kernel_rfl) (fun _ _ _ h => h) (Or.inl ⟨by rfl, ?_⟩) hHeld ?_
            rotate_left
            · intro w' hSw; have q2 := hSw.cell p2 (by simp); have d0 := hSw.cell c0 (by simp); go_simp; try with_reducible rfl
            try simp only [Act.put, List.setIfInBounds_toArray, List.set_cons_zero, List.set_cons_succ]
            refine wpAnyH_take (i := 8) (v := ?_) (List.getElem?_toArray.trans rfl) (by kernel_rfl) (by kernel_rfl) (by kernel_rfl) (fun _ _ _ h => h) (Or.inl ⟨by rfl, ?_⟩) hHeld ?_
            rotate_left
            · intro w' hSw; have q2 := hSw.cell p2 (by simp); have d0 := hSw.cell c0 (by simp); go_simp; try with_reducible rfl
            try simp only [Act.put, List.setIfInBounds_toArray, List.set_cons_zero, List.set_cons_succ]
            refine wpAnyH_take (i := 9) (v := ?_) (List.getElem?_toArray.trans rfl) (by kernel_rfl) (by kernel_rfl) (by kernel_rfl) (fun _ _ _ h => h) (Or.inl ⟨by rfl, ?_⟩) hHeld ?_
            rotate_left
            · intro w' hSw; have q2 := hSw.cell p2 (by simp); have d0 := hSw.cell c0 (by simp); go_simp; try with_reducible rfl
            try simp only [Act.put, List.setIfInBounds_toArray, List.set_cons_zero, List.set_cons_succ]
            refine wpAnyH_take (i := 10) (v := ?_) (List.getElem?_toArray.trans rfl) (by kernel_rfl) (by kernel_rfl) (by kernel_rfl) (fun _ _ _ h => h) (Or.inl ⟨by rfl, ?_⟩) hHeld ?_
            rotate_left
            · intro w' hSw; have q2 := hSw.cell p2 (by simp); have d0 := hSw.cell c0 (by simp); go_simp; try with_reducible rfl
            try simp only [Act.put, List.setIfInBounds_toArray, List.set_cons_zero, List.set_cons_succ]
            refine wpAnyH_take (i := 11) (v := undef) (List.getElem?_toArray.trans rfl) (by kernel_rfl) (by kernel_rfl) (by kernel_rfl) (fun _ _ _ h => h) (Or.inr ⟨by rfl, rfl⟩) hHeld ?_
            try simp only [Act.put, List.setIfInBounds_toArray, List.set_cons_zero, List.set_cons_succ]
            refine wpAnyH_take (i := 12) (v := undef) (List.getElem?_toArray.trans rfl) (by kernel_rfl) (by kernel_rfl) (by kernel_rfl) (fun _ _ _ h => h) (Or.inr ⟨by rfl, rfl⟩) hHeld ?_
            try simp only [Act.put, List.setIfInBounds_toArray, List.set_cons_zero, List.set_cons_succ]
            refine wpAnyH_take (i := 13) (v := undef) (List.getElem?_toArray.trans rfl) (by kernel_rfl) (by kernel_rfl) (by kernel_rfl) (fun _ _ _ h => h) (Or.inr ⟨by rfl, rfl⟩) hHeld ?_
            try simp only [Act.put, List.setIfInBounds_toArray, List.set_cons_zero, List.set_cons_succ]
            refine wpAnyH_take (i := 14) (v := undef) (List.getElem?_toArray.trans rfl) (by kernel_rfl) (by kernel_rfl) (by kernel_rfl) (fun _ _ _ h => h) (Or.inr ⟨by rfl, rfl⟩) hHeld ?_
            try simp only [Act.put, List.setIfInBounds_toArray, List.set_cons_zero, List.set_cons_succ]
            refine wpAnyH_take (i := 15) (v := undef) (List.getElem?_toArray.trans rfl) (by kernel_rfl) (by kernel_rfl) (by kernel_rfl) (fun _ _ _ h => h) (Or.inr ⟨by rfl, rfl⟩) hHeld ?_
            try simp only [Act.put, List.setIfInBounds_toArray, List.set_cons_zero, List.set_cons_succ]
            refine wpAnyH_take (i := 16) (v := undef) (List.getElem?_toArray.trans rfl) (by kernel_rfl) (by kernel_rfl) (by kernel_rfl) (fun _ _ _ h => h) (Or.inr ⟨by rfl, rfl⟩) hHeld ?_
            try simp only [Act.put, List.setIfInBounds_toArray, List.set_cons_zero, List.set_cons_succ]
            refine wpAnyH_take (i := 17) (v := undef) (List.getElem?_toArray.trans rfl) (by kernel_rfl) (by kernel_rfl) (by kernel_rfl) (fun _ _ _ h => h) (Or.inr ⟨by rfl, rfl⟩) hHeld ?_
            try simp only [Act.put, List.setIfInBounds_toArray, List.set_cons_zero, List.set_cons_succ]
            refine wpAnyH_take (i := 18) (v := undef) (List.getElem?_toArray.trans rfl) (by kernel_rfl) (by kernel_rfl) (by kernel_rfl) (fun _ _ _ h => h) (Or.inr ⟨by rfl, rfl⟩) hHeld ?_
            try simp only [Act.put, List.setIfInBounds_toArray, List.set_cons_zero, List.set_cons_succ]
            refine wpAnyH_take (i := 19) (v := undef) (List.getElem?_toArray.trans rfl) (by kernel_rfl) (by kernel_rfl) (by kernel_rfl) (fun _ _ _ h => h) (Or.inr ⟨by rfl, rfl⟩) hHeld ?_
            try simp only [Act.put, List.setIfInBounds_toArray, List.set_cons_zero, List.set_cons_succ]
            refine wpAnyH_take (i := 20) (v := undef) (List.getElem?_toArray.trans rfl) (by kernel_rfl) (by kernel_rfl) (by kernel_rfl) (fun _ _ _ h => h) (Or.inr ⟨by rfl, rfl⟩) hHeld ?_
            try simp only [Act.put, List.setIfInBounds_toArray, List.set_cons_zero, List.set_cons_succ]
            refine wpAnyH_take (i := 21) (v := undef) (List.getElem?_toArray.trans rfl) (by kernel_rfl) (by kernel_rfl) (by kernel_rfl) (fun _ _ _ h => h) (Or.inr ⟨by rfl, rfl⟩) hHeld ?_
            try simp only [Act.put, List.setIfInBounds_toArray, List.set_cons_zero, List.set_cons_succ]
            refine wpAnyH_take (i := 22) (v := undef) (List.getElem?_toArray.trans rfl) (by kernel_rfl) (by kernel_rfl) (by kernel_rfl) (fun _ _ _ h => h) (Or.inr ⟨by rfl, rfl⟩) hHeld ?_
            try simp only [Act.put, List.setIfInBounds_toArray, List.set_cons_zero, List.set_cons_succ]
            refine wpAnyH_take (i := 23) (v := ?_) (List.getElem?_toArray.trans rfl) (by kernel_rfl) (by kernel_rfl) (by kernel_rfl) (fun _ _ _ h => h) (Or.inl ⟨by rfl, ?_⟩) hHeld ?_
            rotate_left
            · intro w' hSw; have q2 := hSw.cell p2 (by simp); have d0 := hSw.cell c0 (by simp); go_simp; try with_reducible rfl
            try simp only [Act.put, List.setIfInBounds_toArray, List.set_cons_zero, List.set_cons_succ]
            refine wpAnyH_take (i := 24) (v := ?_) (List.getElem?_toArray.trans rfl) (by kernel_rfl) (by kernel_rfl) (by kernel_rfl) (fun _ _ _ h => h) (Or.inl ⟨by rfl, ?_⟩) hHeld ?_
            rotate_left
            · intro w' hSw; have q2 := hSw.cell p2 (by simp); have d0 := hSw.cell c0 (by simp); go_simp; try with_reducible rfl
            try simp only [Act.put, List.setIfInBounds_toArray, List.set_cons_zero, List.set_cons_succ]
            refine wpAnyH_done (by kernel_rfl) ?_ _
            refine NoPanic.normal ?_
            go_wp2
            go_roundw
            case rel => exact ⟨k + 1, by omega, by go_num, Lib.hid (take_all HGX.out hall.out HOK.out), Lib.hid (rise_one _ (by have := HK0.out; rw [List.length_take]; omega)), gb_trans gr hHeld⟩
            case measure => simp [intOf]; omega
          · obtain ⟨j, rfl⟩ : ∃ j, k = j + 1 := ⟨k - 1, by omega⟩
            obtain ⟨y, hy⟩ : ∃ y, ks[j]? = some y := ⟨_, List.getElem?_eq_getElem (by omega)⟩
            have e0 := gr.cell (HH2.out _ rfl j _ (show _ = some (.string y) by simp [strsC, hy])) (by simp)
            have HGY := Lib.hid hy
            clear hy
            have hkz : ((j + 1 : Nat) : Int) = (j : Int) + 1 := by omega
            rw [hkz] at hkn ⊢
            have w1 : IntKind.i64.wrap (j : Int) = (j : Int) := IntWalk.i64_in _ (by omega)
            have hj1 : (j : Int) < (ks.length : Int) := by omega
            have hz0 : (0 : Int) ≤ (j : Int) + 1 := by omega
            have hz1 : (0 : Int) < (j : Int) + 1 := by omega
            replace c0 : wr.cell? ⟨a.block, a.off + (j + 1), none⟩ = some (.string x) := c0
            rcases hb : ltS y x with _ | _
            all_goals
              have hq := leq_spell _ _ hb
              have hq2 := geq_spell hb
              have HB := Lib.hid hb
              clear hb
              go_upto_region 11 with fail
              refine wp_region_noPanic ?_
              refine wp_region_held_drew (S := fun w' => wr.grownBy w' none) (by kernel_rfl) (gb_drew _ _) (fun hHeld => ?_)
              refine wpAnyH_take (i := 0) (v := ?_) (List.getElem?_toArray.trans rfl) (by kernel_rfl) (by kernel_rfl) (by kernel_rfl) (fun _ _ _ h => h) (Or.inl ⟨by rfl, ?_⟩) hHeld ?_
              rotate_left
              · intro w' hSw; have q2 := hSw.cell p2 (by simp); have d0 := hSw.cell c0 (by simp); have f0 := hSw.cell e0 (by simp); go_simp; try with_reducible rfl
              try simp only [Act.put, List.setIfInBounds_toArray, List.set_cons_zero, List.set_cons_succ]
              refine wpAnyH_take (i := 1) (v := ?_) (List.getElem?_toArray.trans rfl) (by kernel_rfl) (by kernel_rfl) (by kernel_rfl) (fun _ _ _ h => h) (Or.inl ⟨by rfl, ?_⟩) hHeld ?_
              rotate_left
              · intro w' hSw; have q2 := hSw.cell p2 (by simp); have d0 := hSw.cell c0 (by simp); have f0 := hSw.cell e0 (by simp); go_simp; try with_reducible rfl
              try simp only [Act.put, List.setIfInBounds_toArray, List.set_cons_zero, List.set_cons_succ]
              refine wpAnyH_take (i := 2) (v := ?_) (List.getElem?_toArray.trans rfl) (by kernel_rfl) (by kernel_rfl) (by kernel_rfl) (fun _ _ _ h => h) (Or.inl ⟨by rfl, ?_⟩) hHeld ?_
              rotate_left
              · intro w' hSw; have q2 := hSw.cell p2 (by simp); have d0 := hSw.cell c0 (by simp); have f0 := hSw.cell e0 (by simp); go_simp; try with_reducible rfl
              try simp only [Act.put, List.setIfInBounds_toArray, List.set_cons_zero, List.set_cons_succ]
              refine wpAnyH_take (i := 3) (v := ?_) (List.getElem?_toArray.trans rfl) (by kernel_rfl) (by kernel_rfl) (by kernel_rfl) (fun _ _ _ h => h) (Or.inl ⟨by rfl, ?_⟩) hHeld ?_
              rotate_left
              · intro w' hSw; have q2 := hSw.cell p2 (by simp); have d0 := hSw.cell c0 (by simp); have f0 := hSw.cell e0 (by simp); go_simp; try with_reducible rfl
              try simp only [Act.put, List.setIfInBounds_toArray, List.set_cons_zero, List.set_cons_succ]
              refine wpAnyH_take (i := 4) (v := ?_) (List.getElem?_toArray.trans rfl) (by kernel_rfl) (by kernel_rfl) (by kernel_rfl) (fun _ _ _ h => h) (Or.inl ⟨by rfl, ?_⟩) hHeld ?_
              rotate_left
              · intro w' hSw; have q2 := hSw.cell p2 (by simp); have d0 := hSw.cell c0 (by simp); have f0 := hSw.cell e0 (by simp); go_simp; try with_reducible rfl
              try simp only [Act.put, List.setIfInBounds_toArray, List.set_cons_zero, List.set_cons_succ]
              refine wpAnyH_ready (rs := [5]) (by kernel_rfl) (by simp) ?_
              refine AllReadyH.cons (List.getElem?_toArray.trans rfl) (fun K hK => ?_) AllReadyH.nil
              go_simp
              go_at_call 30
              (with_reducible refine (HX.out _).mono ?_)
              rintro e w2 ⟨rfl, g2⟩
              refine hK.out _ _ (gb_trans hHeld g2) (fun hHeld => ?_)
              clear hK K
              try simp only [Act.put, List.setIfInBounds_toArray, List.set_cons_zero, List.set_cons_succ]
              refine wpAnyH_take (i := 6) (v := ?_) (List.getElem?_toArray.trans rfl) (by kernel_rfl) (by kernel_rfl) (by kernel_rfl) (fun _ _ _ h => h) (Or.inl ⟨by rfl, ?_⟩) hHeld ?_
              rotate_left
              · intro w' hSw; have q2 := hSw.cell p2 (by simp); have d0 := hSw.cell c0 (by simp); have f0 := hSw.cell e0 (by simp); go_simp; try with_reducible rfl
              try simp only [Act.put, List.setIfInBounds_toArray, List.set_cons_zero, List.set_cons_succ]
              refine wpAnyH_take (i := 7) (v := ?_) (List.getElem?_toArray.trans rfl) (by kernel_rfl) (by kernel_rfl) (by kernel_rfl) (fun _ _ _ h => h) (Or.inl ⟨by rfl, ?_⟩) hHeld ?_
              rotate_left
              · intro w' hSw; have q2 := hSw.cell p2 (by simp); have d0 := hSw.cell c0 (by simp); have f0 := hSw.cell e0 (by simp); go_simp; try with_reducible rfl
              try simp only [Act.put, List.setIfInBounds_toArray, List.set_cons_zero, List.set_cons_succ]
              refine wpAnyH_take (i := 8) (v := ?_) (List.getElem?_toArray.trans rfl) (by kernel_rfl) (by kernel_rfl) (by kernel_rfl) (fun _ _ _ h => h) (Or.inl ⟨by rfl, ?_⟩) hHeld ?_
              rotate_left
              · intro w' hSw; have q2 := hSw.cell p2 (by simp); have d0 := hSw.cell c0 (by simp); have f0 := hSw.cell e0 (by simp); go_simp; try with_reducible rfl
              try simp only [Act.put, List.setIfInBounds_toArray, List.set_cons_zero, List.set_cons_succ]
              refine wpAnyH_take (i := 9) (v := ?_) (List.getElem?_toArray.trans rfl) (by kernel_rfl) (by kernel_rfl) (by kernel_rfl) (fun _ _ _ h => h) (Or.inl ⟨by rfl, ?_⟩) hHeld ?_
              rotate_left
              · intro w' hSw; have q2 := hSw.cell p2 (by simp); have d0 := hSw.cell c0 (by simp); have f0 := hSw.cell e0 (by simp); go_simp; try with_reducible rfl
              try simp only [Act.put, List.setIfInBounds_toArray, List.set_cons_zero, List.set_cons_succ]
              refine wpAnyH_take (i := 10) (v := ?_) (List.getElem?_toArray.trans rfl) (by kernel_rfl) (by kernel_rfl) (by kernel_rfl) (fun _ _ _ h => h) (Or.inl ⟨by rfl, ?_⟩) hHeld ?_
              rotate_left
              · intro w' hSw; have q2 := hSw.cell p2 (by simp); have d0 := hSw.cell c0 (by simp); have f0 := hSw.cell e0 (by simp); go_simp; try with_reducible rfl
              try simp only [Act.put, List.setIfInBounds_toArray, List.set_cons_zero, List.set_cons_succ]
              refine wpAnyH_take (i := 11) (v := ?_) (List.getElem?_toArray.trans rfl) (by kernel_rfl) (by kernel_rfl) (by kernel_rfl) (fun _ _ _ h => h) (Or.inl ⟨by rfl, ?_⟩) hHeld ?_
              rotate_left
              · intro w' hSw; have q2 := hSw.cell p2 (by simp); have d0 := hSw.cell c0 (by simp); have f0 := hSw.cell e0 (by simp); go_simp; try with_reducible rfl
              try simp only [Act.put, List.setIfInBounds_toArray, List.set_cons_zero, List.set_cons_succ]
              refine wpAnyH_take (i := 12) (v := ?_) (List.getElem?_toArray.trans rfl) (by kernel_rfl) (by kernel_rfl) (by kernel_rfl) (fun _ _ _ h => h) (Or.inl ⟨by rfl, ?_⟩) hHeld ?_
              rotate_left
              · intro w' hSw; have q2 := hSw.cell p2 (by simp); have d0 := hSw.cell c0 (by simp); have f0 := hSw.cell e0 (by simp); go_simp; try with_reducible rfl
              try simp only [Act.put, List.setIfInBounds_toArray, List.set_cons_zero, List.set_cons_succ]
              refine wpAnyH_take (i := 13) (v := ?_) (List.getElem?_toArray.trans rfl) (by kernel_rfl) (by kernel_rfl) (by kernel_rfl) (fun _ _ _ h => h) (Or.inl ⟨by rfl, ?_⟩) hHeld ?_
              rotate_left
              · intro w' hSw; have q2 := hSw.cell p2 (by simp); have d0 := hSw.cell c0 (by simp); have f0 := hSw.cell e0 (by simp); go_simp; try with_reducible rfl
              try simp only [Act.put, List.setIfInBounds_toArray, List.set_cons_zero, List.set_cons_succ]
              refine wpAnyH_take (i := 14) (v := ?_) (List.getElem?_toArray.trans rfl) (by kernel_rfl) (by kernel_rfl) (by kernel_rfl) (fun _ _ _ h => h) (Or.inl ⟨by rfl, ?_⟩) hHeld ?_
              rotate_left
              · intro w' hSw; have q2 := hSw.cell p2 (by simp); have d0 := hSw.cell c0 (by simp); have f0 := hSw.cell e0 (by simp); go_simp; try with_reducible rfl
              try simp only [Act.put, List.setIfInBounds_toArray, List.set_cons_zero, List.set_cons_succ]
              refine wpAnyH_take (i := 15) (v := ?_) (List.getElem?_toArray.trans rfl) (by kernel_rfl) (by kernel_rfl) (by kernel_rfl) (fun _ _ _ h => h) (Or.inl ⟨by rfl, ?_⟩) hHeld ?_
              rotate_left
              · intro w' hSw; have q2 := hSw.cell p2 (by simp); have d0 := hSw.cell c0 (by simp); have f0 := hSw.cell e0 (by simp); go_simp; try with_reducible rfl
              try simp only [Act.put, List.setIfInBounds_toArray, List.set_cons_zero, List.set_cons_succ]
              refine wpAnyH_take (i := 16) (v := ?_) (List.getElem?_toArray.trans rfl) (by kernel_rfl) (by kernel_rfl) (by kernel_rfl) (fun _ _ _ h => h) (Or.inl ⟨by rfl, ?_⟩) hHeld ?_
              rotate_left
              · intro w' hSw; have q2 := hSw.cell p2 (by simp); have d0 := hSw.cell c0 (by simp); have f0 := hSw.cell e0 (by simp); go_simp; try with_reducible rfl
              try simp only [Act.put, List.setIfInBounds_toArray, List.set_cons_zero, List.set_cons_succ]
              refine wpAnyH_take (i := 17) (v := ?_) (List.getElem?_toArray.trans rfl) (by kernel_rfl) (by kernel_rfl) (by kernel_rfl) (fun _ _ _ h => h) (Or.inl ⟨by rfl, ?_⟩) hHeld ?_
              rotate_left
              · intro w' hSw; have q2 := hSw.cell p2 (by simp); have d0 := hSw.cell c0 (by simp); have f0 := hSw.cell e0 (by simp); go_simp; try with_reducible rfl
              try simp only [Act.put, List.setIfInBounds_toArray, List.set_cons_zero, List.set_cons_succ]
              refine wpAnyH_take (i := 18) (v := ?_) (List.getElem?_toArray.trans rfl) (by kernel_rfl) (by kernel_rfl) (by kernel_rfl) (fun _ _ _ h => h) (Or.inl ⟨by rfl, ?_⟩) hHeld ?_
              rotate_left
              · intro w' hSw; have q2 := hSw.cell p2 (by simp); have d0 := hSw.cell c0 (by simp); have f0 := hSw.cell e0 (by simp); go_simp; try with_reducible rfl
              try simp only [Act.put, List.setIfInBounds_toArray, List.set_cons_zero, List.set_cons_succ]
              refine wpAnyH_take (i := 19) (v := ?_) (List.getElem?_toArray.trans rfl) (by kernel_rfl) (by kernel_rfl) (by kernel_rfl) (fun _ _ _ h => h) (Or.inl ⟨by rfl, ?_⟩) hHeld ?_
              rotate_left
              · intro w' hSw; have q2 := hSw.cell p2 (by simp); have d0 := hSw.cell c0 (by simp); have f0 := hSw.cell e0 (by simp); go_simp; try with_reducible rfl
              try simp only [Act.put, List.setIfInBounds_toArray, List.set_cons_zero, List.set_cons_succ]
              refine wpAnyH_take (i := 20) (v := ?_) (List.getElem?_toArray.trans rfl) (by kernel_rfl) (by kernel_rfl) (by kernel_rfl) (fun _ _ _ h => h) (Or.inl ⟨by rfl, ?_⟩) hHeld ?_
              rotate_left
              · intro w' hSw; have q2 := hSw.cell p2 (by simp); have d0 := hSw.cell c0 (by simp); have f0 := hSw.cell e0 (by simp); go_simp; try with_reducible rfl
              try simp only [Act.put, List.setIfInBounds_toArray, List.set_cons_zero, List.set_cons_succ]
              refine wpAnyH_take (i := 21) (v := ?_) (List.getElem?_toArray.trans rfl) (by kernel_rfl) (by kernel_rfl) (by kernel_rfl) (fun _ _ _ h => h) (Or.inl ⟨by rfl, ?_⟩) hHeld ?_
              rotate_left
              · intro w' hSw; have q2 := hSw.cell p2 (by simp); have d0 := hSw.cell c0 (by simp); have f0 := hSw.cell e0 (by simp); go_simp; try with_reducible rfl
              try simp only [Act.put, List.setIfInBounds_toArray, List.set_cons_zero, List.set_cons_succ]
              refine wpAnyH_take (i := 22) (v := ?_) (List.getElem?_toArray.trans rfl) (by kernel_rfl) (by kernel_rfl) (by kernel_rfl) (fun _ _ _ h => h) (Or.inl ⟨by rfl, ?_⟩) hHeld ?_
              rotate_left
              · intro w' hSw; have q2 := hSw.cell p2 (by simp); have d0 := hSw.cell c0 (by simp); have f0 := hSw.cell e0 (by simp); go_simp; try with_reducible rfl
              try simp only [Act.put, List.setIfInBounds_toArray, List.set_cons_zero, List.set_cons_succ]
              refine wpAnyH_take (i := 23) (v := ?_) (List.getElem?_toArray.trans rfl) (by kernel_rfl) (by kernel_rfl) (by kernel_rfl) (fun _ _ _ h => h) (Or.inl ⟨by rfl, ?_⟩) hHeld ?_
              rotate_left
              · intro w' hSw; have q2 := hSw.cell p2 (by simp); have d0 := hSw.cell c0 (by simp); have f0 := hSw.cell e0 (by simp); go_simp; try with_reducible rfl
              try simp only [Act.put, List.setIfInBounds_toArray, List.set_cons_zero, List.set_cons_succ]
              refine wpAnyH_take (i := 24) (v := ?_) (List.getElem?_toArray.trans rfl) (by kernel_rfl) (by kernel_rfl) (by kernel_rfl) (fun _ _ _ h => h) (Or.inl ⟨by rfl, ?_⟩) hHeld ?_
              rotate_left
              · intro w' hSw; have q2 := hSw.cell p2 (by simp); have d0 := hSw.cell c0 (by simp); have f0 := hSw.cell e0 (by simp); go_simp; try with_reducible rfl
              try simp only [Act.put, List.setIfInBounds_toArray, List.set_cons_zero, List.set_cons_succ]
              refine wpAnyH_done (by kernel_rfl) ?_ _
              refine NoPanic.normal ?_
              go_wp2
            · go_ret
              exact ⟨ret_b (mayI_fall (rise_not (show ks[j]? = some (y) by simp [HGY.out]) (show ks[j + 1]? = some (x) by simp [HGX.out]) HB.out) _ _).symm, gb_trans g0 (gb_trans gr hHeld)⟩
            · go_roundw
              case rel => exact ⟨j + 2, by omega, by go_num, Lib.hid (take_all HGX.out hall.out HOK.out), Lib.hid (rise_on hp.out (show ks[j]? = some (y) by simp [HGY.out]) (show ks[j + 1]? = some (x) by simp [HGX.out]) HB.out), gb_trans gr hHeld⟩
              case measure => simp [intOf]; omega
    · have hke : k = ks.length := by omega
      subst hke
      have HKA := Lib.hid (show ∀ y ∈ ks, keyB y = true by have h := hall.out; rwa [List.take_length] at h)
      have HKR := Lib.hid (show riseF ks = true by have h := hp.out; rwa [List.take_length] at h)
      clear hall hp hk
      go_wp2
      go_loopw [5] (fun z wr => ∃ k : Nat, k ≤ is.length ∧ z = .int .i64 (k : Nat) ∧ Hid (∀ y ∈ is.take k, pageB y = true) ∧ w0.grownBy wr none) (fun z _ => is.length - (intOf z).toNat)
      case atStart => exact ⟨0, Nat.zero_le _, rfl, Lib.hid (by simp), gr⟩
      case round =>
        clear gr p1 p2 p3
        obtain ⟨k, hk, rfl, hall, gr⟩ := hrel
        have p1 := (kN.keep0 gr).cell 1 rfl
        have p2 := (kN.keep0 gr).cell 2 rfl
        have p3 := (kN.keep0 gr).cell 3 rfl
        by_cases hlt : k < is.length
        · obtain ⟨x, hx⟩ : ∃ x, is[k]? = some x := ⟨_, List.getElem?_eq_getElem hlt⟩
          cases co with
          | none => have := HN3.out rfl; omega
          | some a =>
            have c0 := gr.cell (HH3.out _ rfl k _ (show _ = some (.int .i64 x) by simp [inC, hx])) (by simp)
            have HGX := Lib.hid hx
            clear hx
            have hkn : (k : Int) < (is.length : Int) := by omega
            rcases hpx : pageB x with _ | _
            · have HX : Hid (∀ W, Calls Tryz.prog 31 #[.int .i64 x] W fun e w' => e = .returned (.bool false) ∧ W.grownBy w' none) := Lib.hid (fun W => by have h := paged_any x W; rw [hpx] at h; exact h)
              have HBAD := Lib.hid (mayI_page HGX.out hpx)
              clear hpx
              go_wp2_with (go_at_call 31; (with_reducible refine (HX.out _).mono ?_); rintro e w2 ⟨rfl, g2⟩)
              go_ret
              exact ⟨ret_b (HBAD.out _ _).symm, gb_trans g0 (gb_trans gr g2)⟩
            · have HX : Hid (∀ W, Calls Tryz.prog 31 #[.int .i64 x] W fun e w' => e = .returned (.bool true) ∧ W.grownBy w' none) := Lib.hid (fun W => by have h := paged_any x W; rw [hpx] at h; exact h)
              have HOK := Lib.hid hpx
              clear hpx
              go_wp2_with (go_at_call 31; (with_reducible refine (HX.out _).mono ?_); rintro e w2 ⟨rfl, g2⟩)
              go_roundw
              case rel => exact ⟨k + 1, by omega, by go_num, Lib.hid (take_all HGX.out hall.out HOK.out), gb_trans gr g2⟩
              case measure => simp [intOf]; omega
        · have HE := Lib.hid (mayI_end HKA.out HKR.out (show ∀ y ∈ is, pageB y = true by have h := hall.out; rwa [List.take_of_length_le (by omega)] at h))
          clear hall
          have hw2 : IntKind.i64.wrap ((ks.length : Int) + 1) = (ks.length : Int) + 1 := IntWalk.i64_in _ (by omega)
          by_cases h0 : 0 < ks.length
          · have h0z : (0 : Int) < (ks.length : Int) := by omega
            by_cases h2 : is.length = ks.length + 1
            · have h2z : ((is.length : Int) == (ks.length : Int) + 1) = true := by simp; omega
              by_cases h3 : n1 = 0
              · subst h3
                go_wp2
                go_ret
                exact ⟨ret_b (by rw [HE.out, decide_eq_true h0, decide_eq_true h2]; rfl), gb_trans g0 gr⟩
              · have h3z : ((n1 : Int) == 0) = false := by simp; omega
                go_wp2
                go_ret
                exact ⟨ret_b (by rw [HE.out, decide_eq_false h3]; simp), gb_trans g0 gr⟩
            · have h2z : ((is.length : Int) == (ks.length : Int) + 1) = false := by simp; omega
              go_wp2
              go_ret
              exact ⟨ret_b (by rw [HE.out, decide_eq_false h2]; simp), gb_trans g0 gr⟩
          · have h0z : ¬ (0 : Int) < (ks.length : Int) := by omega
            go_wp2
            go_ret
            exact ⟨ret_b (by rw [HE.out, decide_eq_false h0]; simp), gb_trans g0 gr⟩
theorem refMay_any (v : Value) (n : Nd) (w : World) (hv : NdV w v n) (ho : n.Lim) : Calls Tryz.prog 22 #[v] w fun e w' => e = .returned (.bool n.may) ∧ w.grownBy w' none := by
  obtain ⟨a, b, c, rfl, ha, hb, hc⟩ := hv
  have h1 := ho.cells
  have h2 := ho.keys
  have h3 := ho.kids
  rcases hlf : n.leaf with _ | _
  · rw [may_I hlf]
    exact refMay_I a b c n.cells n.keys n.kids w ha hb hc (by omega) (by omega)
  · rw [may_L hlf]
    exact refMay_L a b c n.cells n.keys n.kids w ha hb hc (by omega)
end Go.Proofs.YthhimhjegodklaaGreat.N11

