/-
  What the document's bytes of a node are, over this seat's translation: those of plain mathematics; conditions: the node may be, it lies as it is told, and has at most 300,000 of each.
-/
import Derived.Test.YthhimhjegodklaaGreatNzl
import Derived.Deep.DeepCutAuto
namespace Go.Proofs.YthhimhjegodklaaGreat.N11
set_option linter.unusedSimpArgs false
set_option linter.unusedVariables false
open Go.RowKit
theorem one_byte (n : Nat) : ∃ c : UInt8, digits (n % 256) 1 = [c] ∧ IntKind.u8.wrap (n : Int) = (c.toNat : Int) := by
  refine ⟨UInt8.ofNat (n % 256), ?_, ?_⟩
  · rw [digits1, Nat.mod_mod]
  · simp only [IntKind.wrap, IntKind.bits, IntKind.signed]; simp
def TextGot (t : ByteArray) (w : World) (e : Ending) (w' : World) : Prop := e = .returned (.string t) ∧ w.grownBy w' none
set_option maxRecDepth 100000 in
set_option maxHeartbeats 2000000 in
theorem refBytes_L (a b c0' : Value) (cs : List Ce) (w : World) (ha : Ces w a cs) (hall : ∀ x ∈ cs, cellB x = true) (hl : cs.length ≤ 1000000) :
    Calls Tryz.prog 32 #[.agg #[.bool true, a, b, c0']] w (TextGot ⟨(digits 1 1 ++ digits (cs.length % 256) 1 ++ cs.flatMap cellL).toArray⟩ w) := by
  obtain ⟨ao, cap, rfl, hcap, hlen, hnil, hcell⟩ := ha
  have HN := Lib.hid (show ao = none → cs.length = 0 from fun e => (hnil e).1)
  have HALL := Lib.hid hall
  obtain ⟨w0, hw0, kN, g0, hz⟩ := new1 w 26 #[.bool true, .slice ao cs.length cap, b, c0']
  have HH := Lib.hid (fun a e j u h => g0.cell (hcell a e j u h) (by simp))
  have HW := Lib.hid hw0
  have KN := Lib.hid kN
  have c0 := kN.cell 0 rfl
  have c1 := kN.cell 1 rfl
  clear hlen hnil hcell hw0 hz hall kN
  obtain ⟨c, hdc, hu8⟩ := one_byte cs.length
  rw [hdc]
  clear hdc
  have hcv : (convert 28 9 (.slice (some ⟨w.heap.size + 1, 0, none⟩) 1 1)).run Tryz.prog ((w.alloc (.cells #[.bool true, .slice ao cs.length cap, b, c0'] 26)).alloc (.cells #[.int .u8 (c.toNat : Int)] 5)) = .ok (.string ⟨[c].toArray⟩) ((w.alloc (.cells #[.bool true, .slice ao cs.length cap, b, c0'] 26)).alloc (.cells #[.int .u8 (c.toNat : Int)] 5)) := by
    have h := conv_bs _ _ _ (bs_one (w.alloc (.cells #[.bool true, .slice ao cs.length cap, b, c0'] 26)) (c.toNat : Int) c rfl)
    rwa [show (w.alloc (.cells #[.bool true, .slice ao cs.length cap, b, c0'] 26)).heap.size = w.heap.size + 1 by simp] at h
  go_enter Tryz.func32, Tryz.ntmps32
  go_upto_region 3 with fail
  rw [← HW.out]
  obtain ⟨q, hq⟩ : ∃ q : ByteArray, ⟨#[1]⟩ ++ ⟨[c].toArray⟩ = q := ⟨_, rfl⟩
  have hq' : (⟨(digits 1 1 ++ [c]).toArray⟩ : ByteArray) = q := by rw [← hq, show (⟨#[1]⟩ : ByteArray) = ⟨[1].toArray⟩ from rfl, str_append]; rfl
  try simp only [hq]
  have HQ := Lib.hid hq'
  clear hq hq' hcv hu8
  go_wp2
  go_loopw [3, 4] (fun s z wr => ∃ (k : Nat) (t : ByteArray), k ≤ cs.length ∧ z = .int .i64 (k : Nat) ∧ s = .string t ∧ Hid (⟨(digits 1 1 ++ [c] ++ (cs.take k).flatMap cellL).toArray⟩ = t) ∧ w0.grownBy wr none) (fun _ z _ => cs.length - (intOf z).toNat)
  case atStart => exact ⟨0, q, Nat.zero_le _, rfl, rfl, Lib.hid (by rw [← HQ.out]; simp), gb_alloc _ _ _⟩
  case round =>
    obtain ⟨k, t, hk, rfl, rfl, ht, gr⟩ := hrel
    have p1 := (KN.out.keep0 gr).cell 1 rfl
    by_cases hlt : k < cs.length
    · obtain ⟨x, hx⟩ : ∃ x, cs[k]? = some x := ⟨_, List.getElem?_eq_getElem hlt⟩
      cases ao with
      | none => have := HN.out rfl; omega
      | some a =>
        obtain ⟨e0, e1, e2, e3⟩ := cat_of (fun j u h => gr.cell (HH.out _ rfl j u h) (by simp)) hx
        have hx2 := HALL.out x (List.mem_of_getElem? hx)
        obtain ⟨y, hy⟩ : ∃ y : ByteArray, ⟨(cellL x).toArray⟩ = y := ⟨_, rfl⟩
        have HC := Lib.hid (fun W => (show Calls Tryz.prog 40 #[.agg #[.string x.key, .string x.val, .int .i64 x.fi, .int .i64 x.lo]] W (TextGot y W) from by rw [← hy]; exact refCell_any x.key x.val x.fi x.lo W hx2))
        have hbnd : t.size ≤ 2 + 82 * cs.length := by
          rw [← ht.out, size_arr, List.length_append, List.length_append, digits_length, flat_length cellL cellSz cellL_length]
          have h1 := sumF_le cellSz (cs.take k) 82 (fun z hz => (cellSz_le z (HALL.out z (List.mem_of_mem_take hz))).2)
          rw [List.length_take] at h1
          have : [c].length = 1 := rfl
          omega
        have hyb : y.size ≤ 82 := by rw [← hy, size_arr, cellL_length]; exact (cellSz_le x hx2).2
        have hsum : (9223372036854775807 < t.size + y.size) = False := by simp; omega
        have HE := Lib.hid (show (⟨(digits 1 1 ++ [c] ++ (cs.take (k + 1)).flatMap cellL).toArray⟩ : ByteArray) = t ++ y by rw [flat_take cellL cs k x hx, ← ht.out, ← hy, str_append]; simp only [List.append_assoc])
        have hkn : (k : Int) < (cs.length : Int) := by omega
        clear hx hx2 hy hbnd hyb
        go_wp2_with (go_at_call 40; (with_reducible refine (HC.out _).mono ?_); rintro e w2 ⟨rfl, g2⟩)
        go_roundw
        case rel => exact ⟨k + 1, _, by omega, by go_num, rfl, Lib.hid HE.out, gb_trans gr g2⟩
        case measure => simp [intOf]; omega
    · have hke : k = cs.length := by omega
      subst hke
      have HT := Lib.hid (show (⟨(digits 1 1 ++ [c] ++ cs.flatMap cellL).toArray⟩ : ByteArray) = t by have h := ht.out; rwa [List.take_length] at h)
      clear ht
      go_wp2
      go_ret
      exact ⟨by first | rfl | (rw [HT.out]; rfl), gb_trans g0 gr⟩
set_option maxRecDepth 100000 in
set_option maxHeartbeats 2000000 in
theorem refBytes_I (a b c : Value) (ks : List ByteArray) (is : List Int) (w : World) (hb : Sts w b ks) (hc : Ins w c is) (hk : ∀ x ∈ ks, keyB x = true) (hp : ∀ x ∈ is, pageB x = true) (hki : is.length = ks.length + 1) (hl : ks.length ≤ 1000000) :
    Calls Tryz.prog 32 #[.agg #[.bool false, a, b, c]] w (TextGot ⟨(digits 2 1 ++ digits (ks.length % 256) 1 ++ digits (is.headD 0).toNat 2 ++ (ks.zip is.tail).flatMap pairL).toArray⟩ w) := by
  obtain ⟨bo, cb, rfl, hcap2, hlen2, hnil2, hcell2⟩ := hb
  obtain ⟨co, cc, rfl, hcap3, hlen3, hnil3, hcell3⟩ := hc
  have HN := Lib.hid (show bo = none → ks.length = 0 from fun e => (hnil2 e).1)
  cases co with
  | none => have := (hnil3 rfl).1; omega
  | some y =>
  obtain ⟨w0, hw0, kN, g0, hz⟩ := new1 w 26 #[.bool false, a, .slice bo ks.length cb, .slice (some y) is.length cc]
  have HH := Lib.hid (fun a e j u h => g0.cell (hcell2 a e j u h) (by simp))
  have HI := Lib.hid (fun j u h => g0.cell (hcell3 y rfl j u h) (by simp))
  have HK := Lib.hid hk
  have HP := Lib.hid hp
  have HW := Lib.hid hw0
  have KN := Lib.hid kN
  obtain ⟨n0, h0⟩ : ∃ n, is[0]? = some n := ⟨_, List.getElem?_eq_getElem (by omega)⟩
  obtain ⟨m0, rfl, hm1, hm2⟩ := pageB_parts (hp n0 (List.mem_of_getElem? h0))
  have hd : is.headD 0 = (m0 : Int) := by cases is with
    | nil => simp at h0
    | cons z r => simp at h0; simpa using h0
  have i0 : w0.cell? y = some (.int .i64 m0) := by
    have := HI.out 0 (.int .i64 m0) (by simp [inC, h0]); rwa [Addr.add_zero'] at this
  rw [hd, Int.toNat_natCast]
  obtain ⟨c, hdc, hu8⟩ := one_byte ks.length
  rw [hdc]
  obtain ⟨t0, ht0⟩ : ∃ t0 : ByteArray, ⟨(digits m0 2).toArray⟩ = t0 := ⟨_, rfl⟩
  have HM := Lib.hid (fun W => num_is (show m0 < 65536 by omega) ht0 W)
  have hz0 : t0.size = 2 := by rw [txt_size ht0, digits_length]
  obtain ⟨q, hq⟩ : ∃ q : ByteArray, ⟨#[2]⟩ ++ ⟨[c].toArray⟩ ++ t0 = q := ⟨_, rfl⟩
  have HQ := Lib.hid (show (⟨(digits 2 1 ++ [c] ++ digits m0 2).toArray⟩ : ByteArray) = q by rw [← hq, ← ht0, show (⟨#[2]⟩ : ByteArray) = ⟨[2].toArray⟩ from rfl, str_append, str_append]; rfl)
  have hu64 : IntKind.u64.wrap (m0 : Int) = (m0 : Int) := IntWalk.u64_in _ (by omega)
  have hi1 : 0 < is.length := by omega
  have HKI := Lib.hid hki
  have p0 := kN.cell 0 rfl
  have p2 := kN.cell 2 rfl
  have p3 := kN.cell 3 rfl
  clear hlen2 hnil2 hcell2 hlen3 hnil3 hcell3 hw0 hz hk hp hki hd h0 hdc ht0 kN
  go_enter Tryz.func32, Tryz.ntmps32
  go_upto_region 8 with fail
  rw [← HW.out]
  go_cut [5] (fun s5 wx => s5 = .string q ∧ w0.grownBy wx none)
  case first =>
    have GQ := Lib.hid (gb_drew w0 none)
    refine wp_region_noPanic ?_
    refine wp_region_held_drew (S := fun w' => w0.grownBy w' none) (by kernel_rfl) (gb_drew _ _) (fun hHeld => ?_)
    generalize w0.drew = wd at GQ hHeld ⊢
    refine wpAnyH_take (i := 0) (v := ?_) (List.getElem?_toArray.trans rfl) (by kernel_rfl) (by kernel_rfl) (by kernel_rfl) (fun _ _ _ h => h) (Or.inl ⟨by rfl, ?_⟩) hHeld ?_
    rotate_left
    · intro w' hSw; have p2 := hSw.cell p2 (by simp); have p3 := hSw.cell p3 (by simp); have i0 := hSw.cell i0 (by simp); go_simp; try with_reducible rfl
    try simp only [Act.put, List.setIfInBounds_toArray, List.set_cons_zero, List.set_cons_succ]
    refine wpAnyH_take (i := 1) (v := ?_) (List.getElem?_toArray.trans rfl) (by kernel_rfl) (by kernel_rfl) (by kernel_rfl) (fun _ _ _ h => h) (Or.inl ⟨by rfl, ?_⟩) hHeld ?_
    rotate_left
    · intro w' hSw; have p2 := hSw.cell p2 (by simp); have p3 := hSw.cell p3 (by simp); have i0 := hSw.cell i0 (by simp); go_simp; try with_reducible rfl
    try simp only [Act.put, List.setIfInBounds_toArray, List.set_cons_zero, List.set_cons_succ]
    refine wpAnyH_take (i := 2) (v := ?_) (List.getElem?_toArray.trans rfl) (by kernel_rfl) (by kernel_rfl) (by kernel_rfl) (fun _ _ _ h => h) (Or.inl ⟨by rfl, ?_⟩) hHeld ?_
    rotate_left
    · intro w' hSw; have p2 := hSw.cell p2 (by simp); have p3 := hSw.cell p3 (by simp); have i0 := hSw.cell i0 (by simp); go_simp; try with_reducible rfl
    try simp only [Act.put, List.setIfInBounds_toArray, List.set_cons_zero, List.set_cons_succ]
    refine wpAnyH_take (i := 3) (v := ?_) (List.getElem?_toArray.trans rfl) (by kernel_rfl) (by kernel_rfl) (by kernel_rfl) (fun _ _ _ h => h) (Or.inl ⟨by rfl, ?_⟩) hHeld ?_
    rotate_left
    · intro w' hSw; have p2 := hSw.cell p2 (by simp); have p3 := hSw.cell p3 (by simp); have i0 := hSw.cell i0 (by simp); go_simp; try with_reducible rfl
    try simp only [Act.put, List.setIfInBounds_toArray, List.set_cons_zero, List.set_cons_succ]
    refine wpAnyH_take (i := 7) (v := ?_) (List.getElem?_toArray.trans rfl) (by kernel_rfl) (by kernel_rfl) (by kernel_rfl) (fun _ _ _ h => h) (Or.inl ⟨by rfl, ?_⟩) hHeld ?_
    rotate_left
    · intro w' hSw; have p2 := hSw.cell p2 (by simp); have p3 := hSw.cell p3 (by simp); have i0 := hSw.cell i0 (by simp); go_simp; try with_reducible rfl
    try simp only [Act.put, List.setIfInBounds_toArray, List.set_cons_zero, List.set_cons_succ]
    refine wpAnyH_take (i := 8) (v := ?_) (List.getElem?_toArray.trans rfl) (by kernel_rfl) (by kernel_rfl) (by kernel_rfl) (fun _ _ _ h => h) (Or.inl ⟨by rfl, ?_⟩) hHeld ?_
    rotate_left
    · intro w' hSw; have p2 := hSw.cell p2 (by simp); have p3 := hSw.cell p3 (by simp); have i0 := hSw.cell i0 (by simp); go_simp; try with_reducible rfl
    try simp only [Act.put, List.setIfInBounds_toArray, List.set_cons_zero, List.set_cons_succ]
    refine wpAnyH_take (i := 9) (v := ?_) (List.getElem?_toArray.trans rfl) (by kernel_rfl) (by kernel_rfl) (by kernel_rfl) (fun _ _ _ h => h) (Or.inl ⟨by rfl, ?_⟩) hHeld ?_
    rotate_left
    · intro w' hSw; have p2 := hSw.cell p2 (by simp); have p3 := hSw.cell p3 (by simp); have i0 := hSw.cell i0 (by simp); go_simp; try with_reducible rfl
    try simp only [Act.put, List.setIfInBounds_toArray, List.set_cons_zero, List.set_cons_succ]
    refine wpAnyH_take (i := 10) (v := ?_) (List.getElem?_toArray.trans rfl) (by kernel_rfl) (by kernel_rfl) (by kernel_rfl) (fun _ _ _ h => h) (Or.inl ⟨by rfl, ?_⟩) hHeld ?_
    rotate_left
    · intro w' hSw; have p2 := hSw.cell p2 (by simp); have p3 := hSw.cell p3 (by simp); have i0 := hSw.cell i0 (by simp); go_simp; try with_reducible rfl
    try simp only [Act.put, List.setIfInBounds_toArray, List.set_cons_zero, List.set_cons_succ]
    refine wpAnyH_take (i := 11) (v := ?_) (List.getElem?_toArray.trans rfl) (by kernel_rfl) (by kernel_rfl) (by kernel_rfl) (fun _ _ _ h => h) (Or.inl ⟨by rfl, ?_⟩) hHeld ?_
    rotate_left
    · intro w' hSw; have p2 := hSw.cell p2 (by simp); have p3 := hSw.cell p3 (by simp); have i0 := hSw.cell i0 (by simp); go_simp; try with_reducible rfl
    try simp only [Act.put, List.setIfInBounds_toArray, List.set_cons_zero, List.set_cons_succ]
    refine wpAnyH_ready (rs := [4, 12]) (by kernel_rfl) (by simp) ?_
    refine AllReadyH.cons (List.getElem?_toArray.trans rfl) (fun K hK => ?_) (AllReadyH.cons (List.getElem?_toArray.trans rfl) (fun K hK => ?_) AllReadyH.nil)
    · go_simp
      obtain ⟨x1, hC, kC, gx1, hzz⟩ := new1 wd 5 #[.int .u8 (c.toNat : Int)]
      have hbs := bs_one wd (c.toNat : Int) c rfl
      rw [← hC]
      rw [← hC] at hbs
      clear hC hzz kC
      replace GQ := Lib.hid (gb_trans GQ.out gx1)
      generalize wd.heap.size = bc at hbs ⊢
      have HBS := Lib.hid hbs
      clear hbs
      refine hK.out _ _ (GQ.out) (fun hHeld => ?_)
      clear hK K
      try simp only [Act.put, List.setIfInBounds_toArray, List.set_cons_zero, List.set_cons_succ]
      refine wpAnyH_ready (rs := [5, 12]) (by kernel_rfl) (by simp) ?_
      refine AllReadyH.cons (List.getElem?_toArray.trans rfl) (fun K hK => ?_) (AllReadyH.cons (List.getElem?_toArray.trans rfl) (fun K hK => ?_) AllReadyH.nil)
      · have hcv := conv_bs _ _ _ HBS.out
        go_simp
        clear hcv HBS
        refine hK.out _ _ (GQ.out) (fun hHeld => ?_)
        clear hK K
        try simp only [Act.put, List.setIfInBounds_toArray, List.set_cons_zero, List.set_cons_succ]
        refine wpAnyH_take (i := 6) (v := ?_) (List.getElem?_toArray.trans rfl) (by kernel_rfl) (by kernel_rfl) (by kernel_rfl) (fun _ _ _ h => h) (Or.inl ⟨by rfl, ?_⟩) hHeld ?_
        rotate_left
        · intro w' hSw; go_simp; try with_reducible rfl
        try simp only [Act.put, List.setIfInBounds_toArray, List.set_cons_zero, List.set_cons_succ]
        refine wpAnyH_ready (rs := [12]) (by kernel_rfl) (by simp) ?_
        refine AllReadyH.cons (List.getElem?_toArray.trans rfl) (fun K hK => ?_) AllReadyH.nil
        go_simp
        go_at_call 41
        (with_reducible refine (HM.out _).mono ?_)
        rintro e x3 ⟨rfl, gx3⟩
        replace GQ := Lib.hid (gb_trans GQ.out gx3)
        try replace HBS := Lib.hid (HBS.out.keep0 gx3)
        refine hK.out _ _ (GQ.out) (fun hHeld => ?_)
        clear hK K
        try simp only [Act.put, List.setIfInBounds_toArray, List.set_cons_zero, List.set_cons_succ]
        refine wpAnyH_take (i := 13) (v := ?_) (List.getElem?_toArray.trans rfl) (by kernel_rfl) (by kernel_rfl) (by kernel_rfl) (fun _ _ _ h => h) (Or.inl ⟨by rfl, ?_⟩) hHeld ?_
        rotate_left
        · intro w' hSw; go_simp; try with_reducible rfl
        try simp only [Act.put, List.setIfInBounds_toArray, List.set_cons_zero, List.set_cons_succ]
        refine wpAnyH_take (i := 14) (v := ?_) (List.getElem?_toArray.trans rfl) (by kernel_rfl) (by kernel_rfl) (by kernel_rfl) (fun _ _ _ h => h) (Or.inl ⟨by rfl, ?_⟩) hHeld ?_
        rotate_left
        · intro w' hSw; go_simp; try with_reducible rfl
        try simp only [Act.put, List.setIfInBounds_toArray, List.set_cons_zero, List.set_cons_succ]
        refine wpAnyH_done (by kernel_rfl) ?_ _
        refine NoPanic.normal ?_
        go_wp2_with fail
        go_meet
        case rel => exact ⟨by first | rfl | (rw [← hq]; rfl), GQ.out⟩
      · go_simp
        go_at_call 41
        (with_reducible refine (HM.out _).mono ?_)
        rintro e x4 ⟨rfl, gx4⟩
        replace GQ := Lib.hid (gb_trans GQ.out gx4)
        try replace HBS := Lib.hid (HBS.out.keep0 gx4)
        refine hK.out _ _ (GQ.out) (fun hHeld => ?_)
        clear hK K
        try simp only [Act.put, List.setIfInBounds_toArray, List.set_cons_zero, List.set_cons_succ]
        refine wpAnyH_ready (rs := [5]) (by kernel_rfl) (by simp) ?_
        refine AllReadyH.cons (List.getElem?_toArray.trans rfl) (fun K hK => ?_) AllReadyH.nil
        have hcv := conv_bs _ _ _ HBS.out
        go_simp
        clear hcv HBS
        refine hK.out _ _ (GQ.out) (fun hHeld => ?_)
        clear hK K
        try simp only [Act.put, List.setIfInBounds_toArray, List.set_cons_zero, List.set_cons_succ]
        refine wpAnyH_take (i := 6) (v := ?_) (List.getElem?_toArray.trans rfl) (by kernel_rfl) (by kernel_rfl) (by kernel_rfl) (fun _ _ _ h => h) (Or.inl ⟨by rfl, ?_⟩) hHeld ?_
        rotate_left
        · intro w' hSw; go_simp; try with_reducible rfl
        try simp only [Act.put, List.setIfInBounds_toArray, List.set_cons_zero, List.set_cons_succ]
        refine wpAnyH_take (i := 13) (v := ?_) (List.getElem?_toArray.trans rfl) (by kernel_rfl) (by kernel_rfl) (by kernel_rfl) (fun _ _ _ h => h) (Or.inl ⟨by rfl, ?_⟩) hHeld ?_
        rotate_left
        · intro w' hSw; go_simp; try with_reducible rfl
        try simp only [Act.put, List.setIfInBounds_toArray, List.set_cons_zero, List.set_cons_succ]
        refine wpAnyH_take (i := 14) (v := ?_) (List.getElem?_toArray.trans rfl) (by kernel_rfl) (by kernel_rfl) (by kernel_rfl) (fun _ _ _ h => h) (Or.inl ⟨by rfl, ?_⟩) hHeld ?_
        rotate_left
        · intro w' hSw; go_simp; try with_reducible rfl
        try simp only [Act.put, List.setIfInBounds_toArray, List.set_cons_zero, List.set_cons_succ]
        refine wpAnyH_done (by kernel_rfl) ?_ _
        refine NoPanic.normal ?_
        go_wp2_with fail
        go_meet
        case rel => exact ⟨by first | rfl | (rw [← hq]; rfl), GQ.out⟩
    · go_simp
      go_at_call 41
      (with_reducible refine (HM.out _).mono ?_)
      rintro e x6 ⟨rfl, gx6⟩
      replace GQ := Lib.hid (gb_trans GQ.out gx6)
      try replace HBS := Lib.hid (HBS.out.keep0 gx6)
      refine hK.out _ _ (GQ.out) (fun hHeld => ?_)
      clear hK K
      try simp only [Act.put, List.setIfInBounds_toArray, List.set_cons_zero, List.set_cons_succ]
      refine wpAnyH_ready (rs := [4]) (by kernel_rfl) (by simp) ?_
      refine AllReadyH.cons (List.getElem?_toArray.trans rfl) (fun K hK => ?_) AllReadyH.nil
      go_simp
      obtain ⟨x7, hC, kC, gx7, hzz⟩ := new1 x6 5 #[.int .u8 (c.toNat : Int)]
      have hbs := bs_one x6 (c.toNat : Int) c rfl
      rw [← hC]
      rw [← hC] at hbs
      clear hC hzz kC
      replace GQ := Lib.hid (gb_trans GQ.out gx7)
      generalize x6.heap.size = bc at hbs ⊢
      have HBS := Lib.hid hbs
      clear hbs
      refine hK.out _ _ (GQ.out) (fun hHeld => ?_)
      clear hK K
      try simp only [Act.put, List.setIfInBounds_toArray, List.set_cons_zero, List.set_cons_succ]
      refine wpAnyH_ready (rs := [5]) (by kernel_rfl) (by simp) ?_
      refine AllReadyH.cons (List.getElem?_toArray.trans rfl) (fun K hK => ?_) AllReadyH.nil
      have hcv := conv_bs _ _ _ HBS.out
      go_simp
      clear hcv HBS
      refine hK.out _ _ (GQ.out) (fun hHeld => ?_)
      clear hK K
      try simp only [Act.put, List.setIfInBounds_toArray, List.set_cons_zero, List.set_cons_succ]
      refine wpAnyH_take (i := 6) (v := ?_) (List.getElem?_toArray.trans rfl) (by kernel_rfl) (by kernel_rfl) (by kernel_rfl) (fun _ _ _ h => h) (Or.inl ⟨by rfl, ?_⟩) hHeld ?_
      rotate_left
      · intro w' hSw; go_simp; try with_reducible rfl
      try simp only [Act.put, List.setIfInBounds_toArray, List.set_cons_zero, List.set_cons_succ]
      refine wpAnyH_take (i := 13) (v := ?_) (List.getElem?_toArray.trans rfl) (by kernel_rfl) (by kernel_rfl) (by kernel_rfl) (fun _ _ _ h => h) (Or.inl ⟨by rfl, ?_⟩) hHeld ?_
      rotate_left
      · intro w' hSw; go_simp; try with_reducible rfl
      try simp only [Act.put, List.setIfInBounds_toArray, List.set_cons_zero, List.set_cons_succ]
      refine wpAnyH_take (i := 14) (v := ?_) (List.getElem?_toArray.trans rfl) (by kernel_rfl) (by kernel_rfl) (by kernel_rfl) (fun _ _ _ h => h) (Or.inl ⟨by rfl, ?_⟩) hHeld ?_
      rotate_left
      · intro w' hSw; go_simp; try with_reducible rfl
      try simp only [Act.put, List.setIfInBounds_toArray, List.set_cons_zero, List.set_cons_succ]
      refine wpAnyH_done (by kernel_rfl) ?_ _
      refine NoPanic.normal ?_
      go_wp2_with fail
      go_meet
      case rel => exact ⟨by first | rfl | (rw [← hq]; rfl), GQ.out⟩
  case rest =>
    obtain ⟨rfl, gx⟩ := hcut
    clear hu8 hu64 p0 p2 p3 i0 hz0 hq
    skip
    go_wp2
    go_loopw [5, 6] (fun s z wr => ∃ (k : Nat) (t : ByteArray), k ≤ ks.length ∧ z = .int .i64 (k : Nat) ∧ s = .string t ∧ Hid (⟨(digits 2 1 ++ [c] ++ digits m0 2 ++ ((ks.zip is.tail).take k).flatMap pairL).toArray⟩ = t) ∧ w0.grownBy wr none) (fun _ z _ => ks.length - (intOf z).toNat)
    case atStart => exact ⟨0, q, Nat.zero_le _, rfl, rfl, Lib.hid (by rw [← HQ.out]; simp), gx⟩
    case round =>
      obtain ⟨k, t, hk, rfl, rfl, ht, gr⟩ := hrel
      have p2 := (KN.out.keep0 gr).cell 2 rfl
      have p3 := (KN.out.keep0 gr).cell 3 rfl
      by_cases hlt : k < ks.length
      · have hki := HKI.out
        obtain ⟨x, hx⟩ : ∃ x, ks[k]? = some x := ⟨_, List.getElem?_eq_getElem hlt⟩
        obtain ⟨z, hz⟩ : ∃ z, is[k + 1]? = some z := ⟨_, List.getElem?_eq_getElem (by omega)⟩
        obtain ⟨m, rfl, hm3, hm4⟩ := pageB_parts (HP.out z (List.mem_of_getElem? hz))
        have hkx := HK.out x (List.mem_of_getElem? hx)
        have hxs : x.size ≤ 40 := key_255 hkx
        cases bo with
        | none => have := HN.out rfl; omega
        | some x0 =>
          have c0 := gr.cell (HH.out _ rfl k _ (show _ = some (.string x) by simp [strsC, hx])) (by simp)
          have d0 := gr.cell (HI.out (k + 1) _ (show _ = some (.int .i64 m) by simp [inC, hz])) (by simp)
          replace d0 : wr.cell? ⟨y.block, y.off + (k + 1), none⟩ = some (.int .i64 m) := d0
          obtain ⟨t1, ht1⟩ : ∃ t1 : ByteArray, ⟨(textL x).toArray⟩ = t1 := ⟨_, rfl⟩
          obtain ⟨t2, ht2⟩ : ∃ t2 : ByteArray, ⟨(digits m 2).toArray⟩ = t2 := ⟨_, rfl⟩
          have HT := Lib.hid (fun W => text_is (show x.size ≤ 255 by omega) ht1 W)
          have HM := Lib.hid (fun W => num_is (show m < 65536 by omega) ht2 W)
          have hs1 : t1.size ≤ 41 := by rw [txt_size ht1, textL_length]; omega
          have hs2 : t2.size = 2 := by rw [txt_size ht2, digits_length]
          have hbnd : t.size ≤ 4 + 43 * ks.length := by
            rw [← ht.out, size_arr, List.length_append, List.length_append, List.length_append, digits_length, digits_length, flat_length pairL (fun x => keySz x.1) pair_length]
            have h2 := flat_bound pairL (fun x => keySz x.1) pair_length (ks.zip is.tail) k
            rw [flat_length pairL (fun x => keySz x.1) pair_length, zip_sum _ _ (by rw [List.length_tail]; omega)] at h2
            have h1 := sumF_le keySz ks 43 (fun z hz => (keySz_le z (HK.out z hz)).2)
            have : [c].length = 1 := rfl
            omega
          obtain ⟨q1, hq1⟩ : ∃ q1, t ++ t1 = q1 := ⟨_, rfl⟩
          have hsum1 : (9223372036854775807 < t.size + t1.size) = False := by simp; omega
          have hqs : q1.size ≤ 50 + 43 * ks.length := by rw [← hq1, ByteArray.size_append]; omega
          have hsum2 : (9223372036854775807 < q1.size + t2.size) = False := by simp; omega
          have HE := Lib.hid (show (⟨(digits 2 1 ++ [c] ++ digits m0 2 ++ ((ks.zip is.tail).take (k + 1)).flatMap pairL).toArray⟩ : ByteArray) = q1 ++ t2 by
            rw [flat_take pairL (ks.zip is.tail) k (x, (m : Int)) (zip_at ks is k x m hx hz), ← hq1, ← ht.out, ← ht1, ← ht2, str_append, str_append]
            rw [show pairL (x, (m : Int)) = textL x ++ digits m 2 from rfl]
            simp only [List.append_assoc])
          have q2 : IntKind.u64.wrap (m : Int) = (m : Int) := IntWalk.u64_in _ (by omega)
          have q3 : IntKind.i64.wrap ((k : Int) + 1) = (k : Int) + 1 := IntWalk.i64_in _ (by omega)
          have q4 : (0 : Int) ≤ (k : Int) + 1 := by omega
          have q5 : (k : Int) + 1 < (is.length : Int) := by omega
          have hkn : (k : Int) < (ks.length : Int) := by omega
          clear hx hz hbnd hkx hki ht1 ht2 hs1 hs2 hqs
          go_upto_region 12 with fail
          refine wp_region_noPanic ?_
          refine wp_region_held_drew (S := fun w' => wr.grownBy w' none) (by kernel_rfl) (gb_drew _ _) (fun hHeld => ?_)
          refine wpAnyH_take (i := 0) (v := ?_) (List.getElem?_toArray.trans rfl) (by kernel_rfl) (by kernel_rfl) (by kernel_rfl) (fun _ _ _ h => h) (Or.inl ⟨by rfl, ?_⟩) hHeld ?_
          rotate_left
          · intro w' hSw; have p2 := hSw.cell p2 (by simp); have p3 := hSw.cell p3 (by simp); have c0 := hSw.cell c0 (by simp); have d0 := hSw.cell d0 (by simp); go_simp; try with_reducible rfl
          try simp only [Act.put, List.setIfInBounds_toArray, List.set_cons_zero, List.set_cons_succ]
          refine wpAnyH_take (i := 1) (v := ?_) (List.getElem?_toArray.trans rfl) (by kernel_rfl) (by kernel_rfl) (by kernel_rfl) (fun _ _ _ h => h) (Or.inl ⟨by rfl, ?_⟩) hHeld ?_
          rotate_left
          · intro w' hSw; have p2 := hSw.cell p2 (by simp); have p3 := hSw.cell p3 (by simp); have c0 := hSw.cell c0 (by simp); have d0 := hSw.cell d0 (by simp); go_simp; try with_reducible rfl
          try simp only [Act.put, List.setIfInBounds_toArray, List.set_cons_zero, List.set_cons_succ]
          refine wpAnyH_take (i := 2) (v := ?_) (List.getElem?_toArray.trans rfl) (by kernel_rfl) (by kernel_rfl) (by kernel_rfl) (fun _ _ _ h => h) (Or.inl ⟨by rfl, ?_⟩) hHeld ?_
          rotate_left
          · intro w' hSw; have p2 := hSw.cell p2 (by simp); have p3 := hSw.cell p3 (by simp); have c0 := hSw.cell c0 (by simp); have d0 := hSw.cell d0 (by simp); go_simp; try with_reducible rfl
          try simp only [Act.put, List.setIfInBounds_toArray, List.set_cons_zero, List.set_cons_succ]
          refine wpAnyH_take (i := 3) (v := ?_) (List.getElem?_toArray.trans rfl) (by kernel_rfl) (by kernel_rfl) (by kernel_rfl) (fun _ _ _ h => h) (Or.inl ⟨by rfl, ?_⟩) hHeld ?_
          rotate_left
          · intro w' hSw; have p2 := hSw.cell p2 (by simp); have p3 := hSw.cell p3 (by simp); have c0 := hSw.cell c0 (by simp); have d0 := hSw.cell d0 (by simp); go_simp; try with_reducible rfl
          try simp only [Act.put, List.setIfInBounds_toArray, List.set_cons_zero, List.set_cons_succ]
          refine wpAnyH_take (i := 4) (v := ?_) (List.getElem?_toArray.trans rfl) (by kernel_rfl) (by kernel_rfl) (by kernel_rfl) (fun _ _ _ h => h) (Or.inl ⟨by rfl, ?_⟩) hHeld ?_
          rotate_left
          · intro w' hSw; have p2 := hSw.cell p2 (by simp); have p3 := hSw.cell p3 (by simp); have c0 := hSw.cell c0 (by simp); have d0 := hSw.cell d0 (by simp); go_simp; try with_reducible rfl
          try simp only [Act.put, List.setIfInBounds_toArray, List.set_cons_zero, List.set_cons_succ]
          refine wpAnyH_take (i := 5) (v := ?_) (List.getElem?_toArray.trans rfl) (by kernel_rfl) (by kernel_rfl) (by kernel_rfl) (fun _ _ _ h => h) (Or.inl ⟨by rfl, ?_⟩) hHeld ?_
          rotate_left
          · intro w' hSw; have p2 := hSw.cell p2 (by simp); have p3 := hSw.cell p3 (by simp); have c0 := hSw.cell c0 (by simp); have d0 := hSw.cell d0 (by simp); go_simp; try with_reducible rfl
          try simp only [Act.put, List.setIfInBounds_toArray, List.set_cons_zero, List.set_cons_succ]
          refine wpAnyH_take (i := 8) (v := ?_) (List.getElem?_toArray.trans rfl) (by kernel_rfl) (by kernel_rfl) (by kernel_rfl) (fun _ _ _ h => h) (Or.inl ⟨by rfl, ?_⟩) hHeld ?_
          rotate_left
          · intro w' hSw; have p2 := hSw.cell p2 (by simp); have p3 := hSw.cell p3 (by simp); have c0 := hSw.cell c0 (by simp); have d0 := hSw.cell d0 (by simp); go_simp; try with_reducible rfl
          try simp only [Act.put, List.setIfInBounds_toArray, List.set_cons_zero, List.set_cons_succ]
          refine wpAnyH_take (i := 9) (v := ?_) (List.getElem?_toArray.trans rfl) (by kernel_rfl) (by kernel_rfl) (by kernel_rfl) (fun _ _ _ h => h) (Or.inl ⟨by rfl, ?_⟩) hHeld ?_
          rotate_left
          · intro w' hSw; have p2 := hSw.cell p2 (by simp); have p3 := hSw.cell p3 (by simp); have c0 := hSw.cell c0 (by simp); have d0 := hSw.cell d0 (by simp); go_simp; try with_reducible rfl
          try simp only [Act.put, List.setIfInBounds_toArray, List.set_cons_zero, List.set_cons_succ]
          refine wpAnyH_take (i := 10) (v := ?_) (List.getElem?_toArray.trans rfl) (by kernel_rfl) (by kernel_rfl) (by kernel_rfl) (fun _ _ _ h => h) (Or.inl ⟨by rfl, ?_⟩) hHeld ?_
          rotate_left
          · intro w' hSw; have p2 := hSw.cell p2 (by simp); have p3 := hSw.cell p3 (by simp); have c0 := hSw.cell c0 (by simp); have d0 := hSw.cell d0 (by simp); go_simp; try with_reducible rfl
          try simp only [Act.put, List.setIfInBounds_toArray, List.set_cons_zero, List.set_cons_succ]
          refine wpAnyH_take (i := 11) (v := ?_) (List.getElem?_toArray.trans rfl) (by kernel_rfl) (by kernel_rfl) (by kernel_rfl) (fun _ _ _ h => h) (Or.inl ⟨by rfl, ?_⟩) hHeld ?_
          rotate_left
          · intro w' hSw; have p2 := hSw.cell p2 (by simp); have p3 := hSw.cell p3 (by simp); have c0 := hSw.cell c0 (by simp); have d0 := hSw.cell d0 (by simp); go_simp; try with_reducible rfl
          try simp only [Act.put, List.setIfInBounds_toArray, List.set_cons_zero, List.set_cons_succ]
          refine wpAnyH_take (i := 12) (v := ?_) (List.getElem?_toArray.trans rfl) (by kernel_rfl) (by kernel_rfl) (by kernel_rfl) (fun _ _ _ h => h) (Or.inl ⟨by rfl, ?_⟩) hHeld ?_
          rotate_left
          · intro w' hSw; have p2 := hSw.cell p2 (by simp); have p3 := hSw.cell p3 (by simp); have c0 := hSw.cell c0 (by simp); have d0 := hSw.cell d0 (by simp); go_simp; try with_reducible rfl
          try simp only [Act.put, List.setIfInBounds_toArray, List.set_cons_zero, List.set_cons_succ]
          refine wpAnyH_take (i := 13) (v := ?_) (List.getElem?_toArray.trans rfl) (by kernel_rfl) (by kernel_rfl) (by kernel_rfl) (fun _ _ _ h => h) (Or.inl ⟨by rfl, ?_⟩) hHeld ?_
          rotate_left
          · intro w' hSw; have p2 := hSw.cell p2 (by simp); have p3 := hSw.cell p3 (by simp); have c0 := hSw.cell c0 (by simp); have d0 := hSw.cell d0 (by simp); go_simp; try with_reducible rfl
          try simp only [Act.put, List.setIfInBounds_toArray, List.set_cons_zero, List.set_cons_succ]
          refine wpAnyH_take (i := 14) (v := ?_) (List.getElem?_toArray.trans rfl) (by kernel_rfl) (by kernel_rfl) (by kernel_rfl) (fun _ _ _ h => h) (Or.inl ⟨by rfl, ?_⟩) hHeld ?_
          rotate_left
          · intro w' hSw; have p2 := hSw.cell p2 (by simp); have p3 := hSw.cell p3 (by simp); have c0 := hSw.cell c0 (by simp); have d0 := hSw.cell d0 (by simp); go_simp; try with_reducible rfl
          try simp only [Act.put, List.setIfInBounds_toArray, List.set_cons_zero, List.set_cons_succ]
          refine wpAnyH_ready (rs := [6]) (by kernel_rfl) (by simp) ?_
          refine AllReadyH.cons (List.getElem?_toArray.trans rfl) (fun K hK => ?_) AllReadyH.nil
          go_simp
          go_at_call 42
          (with_reducible refine (HT.out _).mono ?_)
          rintro e wa ⟨rfl, gwa⟩
          refine hK.out _ _ (gb_trans hHeld gwa) (fun hHeld => ?_)
          clear hK K
          try simp only [Act.put, List.setIfInBounds_toArray, List.set_cons_zero, List.set_cons_succ]
          refine wpAnyH_take (i := 7) (v := ?_) (List.getElem?_toArray.trans rfl) (by kernel_rfl) (by kernel_rfl) (by kernel_rfl) (fun _ _ _ h => h) (Or.inl ⟨by rfl, ?_⟩) hHeld ?_
          rotate_left
          · intro w' hSw; have p2 := hSw.cell p2 (by simp); have p3 := hSw.cell p3 (by simp); have c0 := hSw.cell c0 (by simp); have d0 := hSw.cell d0 (by simp); go_simp; try with_reducible rfl
          try simp only [Act.put, List.setIfInBounds_toArray, List.set_cons_zero, List.set_cons_succ]
          refine wpAnyH_ready (rs := [15]) (by kernel_rfl) (by simp) ?_
          refine AllReadyH.cons (List.getElem?_toArray.trans rfl) (fun K hK => ?_) AllReadyH.nil
          go_simp
          go_at_call 41
          (with_reducible refine (HM.out _).mono ?_)
          rintro e wb ⟨rfl, gwb⟩
          refine hK.out _ _ (gb_trans hHeld gwb) (fun hHeld => ?_)
          clear hK K
          try simp only [Act.put, List.setIfInBounds_toArray, List.set_cons_zero, List.set_cons_succ]
          refine wpAnyH_take (i := 16) (v := ?_) (List.getElem?_toArray.trans rfl) (by kernel_rfl) (by kernel_rfl) (by kernel_rfl) (fun _ _ _ h => h) (Or.inl ⟨by rfl, ?_⟩) hHeld ?_
          rotate_left
          · intro w' hSw; have p2 := hSw.cell p2 (by simp); have p3 := hSw.cell p3 (by simp); have c0 := hSw.cell c0 (by simp); have d0 := hSw.cell d0 (by simp); go_simp; try with_reducible rfl
          try simp only [Act.put, List.setIfInBounds_toArray, List.set_cons_zero, List.set_cons_succ]
          refine wpAnyH_take (i := 17) (v := ?_) (List.getElem?_toArray.trans rfl) (by kernel_rfl) (by kernel_rfl) (by kernel_rfl) (fun _ _ _ h => h) (Or.inl ⟨by rfl, ?_⟩) hHeld ?_
          rotate_left
          · intro w' hSw; have p2 := hSw.cell p2 (by simp); have p3 := hSw.cell p3 (by simp); have c0 := hSw.cell c0 (by simp); have d0 := hSw.cell d0 (by simp); go_simp; try with_reducible rfl
          try simp only [Act.put, List.setIfInBounds_toArray, List.set_cons_zero, List.set_cons_succ]
          refine wpAnyH_done (by kernel_rfl) ?_ _
          refine NoPanic.normal ?_
          go_wp2
          go_roundw
          case rel => exact ⟨k + 1, _, by omega, by go_num, rfl, Lib.hid HE.out, gb_trans gr hHeld⟩
          case measure => simp [intOf]; omega
      · have hke : k = ks.length := by omega
        subst hke
        have HT := Lib.hid (show (⟨(digits 2 1 ++ [c] ++ digits m0 2 ++ (ks.zip is.tail).flatMap pairL).toArray⟩ : ByteArray) = t by have h := ht.out; have hki := HKI.out; rwa [List.take_of_length_le (by rw [List.length_zip, List.length_tail]; omega)] at h)
        clear ht
        go_wp2
        go_ret
        exact ⟨by first | rfl | (rw [HT.out]; rfl), gb_trans g0 gr⟩
theorem refBytes_any (v : Value) (n : Nd) (w : World) (hv : NdV w v n) (hm : n.may = true) (ho : n.Lim) : Calls Tryz.prog 32 #[v] w (TextGot ⟨n.bytes.toArray⟩ w) := by
  obtain ⟨a, b, c, rfl, ha, hb, hc⟩ := hv
  have h1 := ho.cells
  have h2 := ho.keys
  rcases hlf : n.leaf with _ | _
  · obtain ⟨_, _, k3, k4, _, k6⟩ := (may_inner hlf).1 hm
    have := refBytes_I a b c n.keys n.kids w hb hc k4 k6 k3 (by omega)
    unfold Nd.bytes
    rw [if_neg (by rw [hlf]; exact Bool.false_ne_true)]
    exact this
  · obtain ⟨_, _, _, k4, _⟩ := (may_leaf hlf).1 hm
    have := refBytes_L a b c n.cells w ha k4 (by omega)
    unfold Nd.bytes
    rw [if_pos hlf]
    exact this
end Go.Proofs.YthhimhjegodklaaGreat.N11

