/-
  How many bytes a node has, and which, by the program's own calls (size, layValue, lay), over this seat's translation; conditions: the node may be, and has at most a thousand bytes.
-/
import Derived.Test.YthhimhjegodklaaGreatNh
namespace Go.Proofs.YthhimhjegodklaaGreat.N11
set_option linter.unusedSimpArgs false
set_option linter.unusedVariables false
open Go.RowKit
/-- A slice that reads as these bytes. -/
def LaidB (w : World) (l : List UInt8) (e : Ending) (w' : World) : Prop := ∃ v, e = .returned v ∧ Bs w' v l ∧ w.grownBy w' none
theorem laid_b {w w' : World} {l : List UInt8} {e : Ending} (h : Laid w l e w') : LaidB w l e w' := by
  obtain ⟨v, rfl, o, g⟩ := h; exact ⟨v, rfl, Bs.of_owns o, g⟩
theorem p8_at (v : Value) (l : List UInt8) (z : Int) (n : Nat) (e : z = n) (w : World) (hv : Bs w v l) (hn : n < 256) (hl : l.length ≤ 1000000) :
    Calls Tryz.prog 100 #[v, .int .u8 z] w (LaidB w (l ++ digits n 1)) := by subst e; exact (p8_any v l n w hv hn hl).mono fun _ _ h => laid_b h
theorem p16_at (v : Value) (l : List UInt8) (z : Int) (n : Nat) (e : z = n) (w : World) (hv : Bs w v l) (hn : n < 65536) (hl : l.length ≤ 1000000) :
    Calls Tryz.prog 110 #[v, .int .u16 z] w (LaidB w (l ++ digits n 2)) := by subst e; exact (p16_any v l n w hv hn hl).mono fun _ _ h => laid_b h
theorem pt_at (v : Value) (l : List UInt8) (s : ByteArray) (w : World) (hv : Bs w v l) (hs : s.size ≤ 255) (hl : l.length ≤ 500000) :
    Calls Tryz.prog 102 #[v, .string s] w (LaidB w (l ++ textL s)) := (ptext_ok v l s w hv hs hl).mono fun _ _ h => laid_b h
theorem cellB_parts {k v : ByteArray} {f o : Int} (h : cellB ⟨k, v, f, o⟩ = true) : k.size ≤ 40 ∧ v.size ≤ 40 ∧ (longB ⟨k, v, f, o⟩ = true → ∃ m q : Nat, f = m ∧ o = q ∧ m ≤ 960 ∧ q ≤ 2000) := by
  simp only [cellB, keyB, shortB, longB, pageB, Bool.and_eq_true, Bool.or_eq_true, decide_eq_true_eq] at h ⊢
  refine ⟨by omega, by omega, fun h2 => ⟨f.toNat, o.toNat, by omega, by omega, by omega, by omega⟩⟩
theorem pageB_parts {n : Int} (h : pageB n = true) : ∃ m : Nat, n = m ∧ 1 ≤ m ∧ m ≤ 960 := by
  simp only [pageB, Bool.and_eq_true, decide_eq_true_eq] at h
  exact ⟨n.toNat, by omega, by omega, by omega⟩
set_option maxRecDepth 100000 in
set_option maxHeartbeats 1000000 in
theorem layValue_any (v : Value) (l : List UInt8) (k u : ByteArray) (f o : Int) (w : World) (hv : Bs w v l) (hc : cellB ⟨k, u, f, o⟩ = true) (hl : l.length ≤ 100000) :
    Calls Tryz.prog 101 #[v, .agg #[.string k, .string u, .int .i64 f, .int .i64 o]] w (LaidB w (l ++ valL ⟨k, u, f, o⟩)) := by
  obtain ⟨h1, h2, h3⟩ := cellB_parts hc
  have HL := Lib.hid (isLonger_any k u f o)
  have HV := Lib.hid (show valL ⟨k, u, f, o⟩ = if longB ⟨k, u, f, o⟩ then digits 255 1 ++ digits f.toNat 2 ++ digits o.toNat 2 else textL u from rfl)
  have HB := Lib.hid hv
  clear hc hv
  generalize longB _ = lb at HL HV h3
  generalize valL _ = vl at HV ⊢
  cases lb
  · have e := HV.out
    simp only [Bool.false_eq_true, if_false] at e
    have HE := Lib.hid e
    clear e h3 HV
    go_enter Tryz.func101, Tryz.ntmps101
    go_wp2_with (first
      | (go_at_call 66; (with_reducible refine (HL.out _).mono ?_); rintro e w1 ⟨rfl, rfl⟩)
      | (go_at_call 102; (with_reducible refine (pt_at v l u _ (HB.out.keep0 (gb_trans (gb_alloc _ _ _) (gb_alloc _ _ _))) (by omega) (by omega)).mono ?_); rintro e w2 ⟨v2, rfl, hb, hg⟩))
    go_ret
    exact ⟨v2, rfl, by rw [HE.out]; exact hb, gb_trans (gb_trans (gb_alloc _ _ _) (gb_alloc _ _ _)) hg⟩
  · obtain ⟨m, q, rfl, rfl, hm, hq⟩ := h3 rfl
    have e := HV.out
    simp only [if_true, Int.toNat_natCast] at e
    have HE := Lib.hid e
    clear e h3 HV
    have w1 : IntKind.u16.wrap (m : Int) = (m : Int) := IntWalk.u16_in _ (by omega)
    have w2 : IntKind.u16.wrap (q : Int) = (q : Int) := IntWalk.u16_in _ (by omega)
    obtain ⟨w0, hw0⟩ : ∃ w0 : World, w0 = (w.alloc (.cells #[.string k, .string u, .int .i64 m, .int .i64 q] 55)).alloc (.cells #[.string k, .string u, .int .i64 m, .int .i64 q] 55) := ⟨_, rfl⟩
    have k0 : Blk w0 w.heap.size 55 #[.string k, .string u, .int .i64 m, .int .i64 q] := by rw [hw0]; exact (Blk.mk _ _ _).keep0 (gb_alloc _ _ _)
    have g0 : w.grownBy w0 none := by rw [hw0]; exact gb_trans (gb_alloc _ _ _) (gb_alloc _ _ _)
    have HW := Lib.hid hw0
    clear hw0
    go_enter Tryz.func101, Tryz.ntmps101
    go_wp2_with (first
      | (go_at_call 66; (with_reducible refine (HL.out _).mono ?_); rintro e w1 ⟨rfl, rfl⟩; rw [← HW.out])
      | (go_at_call 100; (with_reducible refine (p8_at v l 255 255 rfl _ (HB.out.keep0 g0) (by omega) (by omega)).mono ?_); rintro e w2 ⟨v2, rfl, hb, hg⟩; replace k0 := k0.keep0 hg; have c2 := k0.cell 2 rfl; replace g0 := gb_trans g0 hg; clear hg)
      | (go_at_call 110; (with_reducible refine (p16_at v2 _ _ m rfl _ hb (by omega) (by simp only [List.length_append, digits_length]; omega)).mono ?_); rintro e w3 ⟨v3, rfl, hb3, hg⟩; replace k0 := k0.keep0 hg; clear c2; have c3 := k0.cell 3 rfl; replace g0 := gb_trans g0 hg; clear hg)
      | (go_at_call 110; (with_reducible refine (p16_at v3 _ _ q rfl _ hb3 (by omega) (by simp only [List.length_append, digits_length]; omega)).mono ?_); rintro e w4 ⟨v4, rfl, hb4, hg⟩))
    go_ret
    exact ⟨v4, rfl, by rw [HE.out, ← List.append_assoc, ← List.append_assoc]; exact hb4, gb_trans g0 hg⟩
theorem flat_take {α : Type} (f : α → List UInt8) (l : List α) (k : Nat) (x : α) (h : l[k]? = some x) : (l.take (k + 1)).flatMap f = (l.take k).flatMap f ++ f x := by
  rw [List.take_add_one, h]; simp
theorem flat_bound {α : Type} (f : α → List UInt8) (g : α → Nat) (h : ∀ x, (f x).length = g x) (l : List α) (k : Nat) : ((l.take k).flatMap f).length ≤ sumF g l := by
  rw [flat_length f g h]
  have := sumF_append g (l.take k) (l.drop k)
  rw [List.take_append_drop] at this; omega
set_option maxRecDepth 100000 in
set_option maxHeartbeats 1000000 in
theorem layL_any (lf : Bool) (a b c : Value) (cs : List Ce) (w : World) (ha : Ces w a cs) (hall : ∀ x ∈ cs, cellB x = true) (hs : sumF cellSz cs ≤ 1000) (hn : cs.length < 256) :
    Calls Tryz.prog 93 #[.agg #[.bool lf, a, b, c]] w (LaidB w (digits 1 1 ++ digits (cs.length % 256) 1 ++ cs.flatMap cellL)) := by
  obtain ⟨ao, ca, hcap, hlen, hnil, hcell⟩ : ∃ ao ca, a = .slice ao cs.length ca ∧ cs.length ≤ ca ∧ (ao = none → cs.length = 0) ∧ ∀ x, ao = some x → ∀ j u, (ceC cs)[j]? = some u → w.cell? (x.add j) = some u := by
    obtain ⟨ao, ca, h1, h2, h3, h4, h5⟩ := ha
    exact ⟨ao, ca, h1, h2, fun e => (h4 e).1, h5⟩
  subst hcap
  have HH := Lib.hid hcell
  have HN := Lib.hid hnil
  have HALL := Lib.hid hall
  rw [Nat.mod_eq_of_lt hn]
  clear ha hcell hnil hall
  have w1 : IntKind.u8.wrap (cs.length : Int) = (cs.length : Int) := IntWalk.u8_in _ (by omega)
  obtain ⟨w0, hw0⟩ : ∃ w0 : World, w0 = w.alloc (.cells #[.bool lf, .slice ao cs.length ca, b, c] 69) := ⟨_, rfl⟩
  have k0 : Blk w0 w.heap.size 69 #[.bool lf, .slice ao cs.length ca, b, c] := by rw [hw0]; exact Blk.mk _ _ _
  have g0 : w.grownBy w0 none := by rw [hw0]; exact gb_alloc _ _ _
  have HW := Lib.hid hw0
  clear hw0
  go_enter Tryz.func93, Tryz.ntmps93
  go_wp2_with (first
    | (go_at_call 100; first
        | ((with_reducible refine (p8_at (.slice none 0 0) [] 1 1 rfl _ (Bs.nil _) (by omega) (by simp)).mono ?_); rintro e w2 ⟨v2, rfl, hb, hg⟩; rw [← HW.out] at hg; replace k0 := k0.keep0 hg; have c1 := k0.cell 1 rfl; replace g0 := gb_trans g0 hg; clear hg)
        | ((with_reducible refine (p8_at v2 _ _ cs.length rfl _ hb hn (by simp only [List.length_append, digits_length]; simp)).mono ?_); rintro e w3 ⟨v3, rfl, hb3, hg⟩; clear c1; replace k0 := k0.keep0 hg; have c1 := k0.cell 1 rfl; replace g0 := gb_trans g0 hg; clear hg)))
  clear w1
  go_loopw [3, 16] (fun s i wr => ∃ k : Nat, k ≤ cs.length ∧ i = .int .i64 k ∧ Bs wr s (digits 1 1 ++ digits cs.length 1 ++ (cs.take k).flatMap cellL) ∧ w.grownBy wr none) (fun _ i _ => cs.length - (intOf i).toNat)
  case atStart => exact ⟨0, Nat.zero_le _, rfl, by simpa using hb3, g0⟩
  case round =>
    obtain ⟨k, hk, rfl, hb, gr⟩ := hrel
    by_cases hlt : k < cs.length
    · obtain ⟨x, hx⟩ : ∃ x, cs[k]? = some x := ⟨_, List.getElem?_eq_getElem hlt⟩
      cases ao with
      | none => have := HN.out rfl; omega
      | some y =>
        obtain ⟨c0, c1, c2, c3⟩ := cat_of (fun j u h => gr.cell (HH.out _ rfl j u h) (by simp)) hx
        have HX := HALL.out x (List.mem_of_getElem? hx)
        have HC := cellB_parts HX
        have HE := Lib.hid (flat_take cellL cs k x hx)
        have hbnd := flat_bound cellL cellSz cellL_length cs k
        have hbl : (digits 1 1 ++ digits cs.length 1 ++ (cs.take k).flatMap cellL).length ≤ 2000 := by simp only [List.length_append, digits_length]; omega
        have HBL := Lib.hid hbl
        obtain ⟨bl, hbe⟩ : ∃ bl, digits 1 1 ++ digits cs.length 1 ++ (cs.take k).flatMap cellL = bl := ⟨_, rfl⟩
        rw [hbe] at hb HBL
        have HBE := Lib.hid hbe
        clear hbe
        have HB := Lib.hid hb
        clear hbnd hx hb hbl
        go_wp2
        refine wp_region_noPanic ?_
        refine wp_region_held_drew (S := fun w' => wr.grownBy w' none ∧ Blk w' wr.heap.size 55 #[.string x.key, .string x.val, .int .i64 x.fi, .int .i64 x.lo]) (by kernel_rfl) ⟨gb_trans (gb_alloc _ _ _) (gb_drew _ _), (Blk.mk _ _ _).keep0 (gb_drew _ _)⟩ (fun hHeld => ?_)
        refine wpAnyH_take (i := 0) (v := ?_) (List.getElem?_toArray.trans rfl) (by kernel_rfl) (by kernel_rfl) (by kernel_rfl) (fun _ _ _ h => h) (Or.inl ⟨by rfl, ?_⟩) hHeld ?_
        rotate_left
        · intro w' hSw; have d0 := hSw.2.cell 0 rfl; have d1 := hSw.2.cell 1 rfl; have d2 := hSw.2.cell 2 rfl; have d3 := hSw.2.cell 3 rfl; go_simp; try with_reducible rfl
        try simp only [Act.put, List.setIfInBounds_toArray, List.set_cons_zero, List.set_cons_succ]
        refine wpAnyH_take (i := 1) (v := ?_) (List.getElem?_toArray.trans rfl) (by kernel_rfl) (by kernel_rfl) (by kernel_rfl) (fun _ _ _ h => h) (Or.inl ⟨by rfl, ?_⟩) hHeld ?_
        rotate_left
        · intro w' hSw; have d0 := hSw.2.cell 0 rfl; have d1 := hSw.2.cell 1 rfl; have d2 := hSw.2.cell 2 rfl; have d3 := hSw.2.cell 3 rfl; go_simp; try with_reducible rfl
        try simp only [Act.put, List.setIfInBounds_toArray, List.set_cons_zero, List.set_cons_succ]
        refine wpAnyH_take (i := 2) (v := ?_) (List.getElem?_toArray.trans rfl) (by kernel_rfl) (by kernel_rfl) (by kernel_rfl) (fun _ _ _ h => h) (Or.inl ⟨by rfl, ?_⟩) hHeld ?_
        rotate_left
        · intro w' hSw; have d0 := hSw.2.cell 0 rfl; have d1 := hSw.2.cell 1 rfl; have d2 := hSw.2.cell 2 rfl; have d3 := hSw.2.cell 3 rfl; go_simp; try with_reducible rfl
        try simp only [Act.put, List.setIfInBounds_toArray, List.set_cons_zero, List.set_cons_succ]
        refine wpAnyH_take (i := 4) (v := ?_) (List.getElem?_toArray.trans rfl) (by kernel_rfl) (by kernel_rfl) (by kernel_rfl) (fun _ _ _ h => h) (Or.inl ⟨by rfl, ?_⟩) hHeld ?_
        rotate_left
        · intro w' hSw; have d0 := hSw.2.cell 0 rfl; have d1 := hSw.2.cell 1 rfl; have d2 := hSw.2.cell 2 rfl; have d3 := hSw.2.cell 3 rfl; go_simp; try with_reducible rfl
        try simp only [Act.put, List.setIfInBounds_toArray, List.set_cons_zero, List.set_cons_succ]
        refine wpAnyH_ready (rs := [3]) (by kernel_rfl) (by simp) ?_
        refine AllReadyH.cons (List.getElem?_toArray.trans rfl) (fun K hK => ?_) AllReadyH.nil
        go_simp
        go_at_call 102
        (with_reducible refine (pt_at _ _ x.key _ (HB.out.keep0 hHeld.1) (by have := HC.1; omega) (by have := HBL.out; omega)).mono ?_)
        rintro e w2 ⟨u2, rfl, hb2, hg2⟩
        have HB2 := Lib.hid hb2
        clear hb2
        refine hK.out _ _ (⟨gb_trans hHeld.1 hg2, hHeld.2.keep0 hg2⟩) (fun hHeld => ?_)
        clear hK K
        try simp only [Act.put, List.setIfInBounds_toArray, List.set_cons_zero, List.set_cons_succ]
        refine wpAnyH_ready (rs := [5]) (by kernel_rfl) (by simp) ?_
        refine AllReadyH.cons (List.getElem?_toArray.trans rfl) (fun K hK => ?_) AllReadyH.nil
        go_simp
        go_at_call 101
        (with_reducible refine (layValue_any u2 _ x.key x.val x.fi x.lo _ HB2.out HX (by have := HBL.out; have := HC.1; rw [List.length_append, textL_length]; omega)).mono ?_)
        rintro e w3 ⟨u3', rfl, hb3, hg3⟩
        have HB3 := Lib.hid hb3
        clear hb3
        refine hK.out _ _ (⟨gb_trans hHeld.1 hg3, hHeld.2.keep0 hg3⟩) (fun hHeld => ?_)
        clear hK K
        try simp only [Act.put, List.setIfInBounds_toArray, List.set_cons_zero, List.set_cons_succ]
        refine wpAnyH_take (i := 6) (v := ?_) (List.getElem?_toArray.trans rfl) (by kernel_rfl) (by kernel_rfl) (by kernel_rfl) (fun _ _ _ h => h) (Or.inl ⟨by rfl, ?_⟩) hHeld ?_
        rotate_left
        · intro w' hSw; have d0 := hSw.2.cell 0 rfl; have d1 := hSw.2.cell 1 rfl; have d2 := hSw.2.cell 2 rfl; have d3 := hSw.2.cell 3 rfl; go_simp; try with_reducible rfl
        try simp only [Act.put, List.setIfInBounds_toArray, List.set_cons_zero, List.set_cons_succ]
        refine wpAnyH_done (by kernel_rfl) ?_ _
        refine NoPanic.normal ?_
        go_wp2
        go_roundw
        case rel => exact ⟨k + 1, by omega, by go_num, by rw [HE.out, ← List.append_assoc, HBE.out]; rw [show cellL x = textL x.key ++ valL x from rfl, ← List.append_assoc]; exact HB3.out, gb_trans gr hHeld.1⟩
        case measure => simp [intOf]; omega
    · have hk2 : k = cs.length := by omega
      subst hk2
      rw [List.take_length] at hb
      go_wp2
      go_ret
      exact ⟨_, rfl, hb, gr⟩
theorem zip_at (ks : List ByteArray) (is : List Int) (k : Nat) (x : ByteArray) (n : Int) (hx : ks[k]? = some x) (hn : is[k + 1]? = some n) : (ks.zip is.tail)[k]? = some (x, n) := by
  have h2 : is.tail[k]? = some n := by rw [List.getElem?_tail]; exact hn
  rw [List.getElem?_zip_eq_some]; exact ⟨hx, h2⟩
set_option maxRecDepth 100000 in
set_option maxHeartbeats 1000000 in
theorem layI_any (lf : Bool) (a b c : Value) (ks : List ByteArray) (is : List Int) (w : World) (hb : Sts w b ks) (hc : Ins w c is) (hk : ∀ x ∈ ks, keyB x = true) (hp : ∀ n ∈ is, pageB n = true) (hki : is.length = ks.length + 1) (hs : sumF keySz ks ≤ 1000) (hn : ks.length < 256) :
    Calls Tryz.prog 116 #[.agg #[.bool lf, a, b, c]] w (LaidB w (digits 2 1 ++ digits (ks.length % 256) 1 ++ digits (is.headD 0).toNat 2 ++ (ks.zip is.tail).flatMap pairL)) := by
  obtain ⟨bo, cb, hbe, hlen, hnil, hcell⟩ : ∃ ao ca, b = .slice ao ks.length ca ∧ ks.length ≤ ca ∧ (ao = none → ks.length = 0) ∧ ∀ x, ao = some x → ∀ j u, (strsC ks)[j]? = some u → w.cell? (x.add j) = some u := by
    obtain ⟨ao, ca, h1, h2, h3, h4, h5⟩ := hb
    exact ⟨ao, ca, h1, h2, fun e => (h4 e).1, h5⟩
  subst hbe
  obtain ⟨y, cc, hce, hlen2, hcell2⟩ : ∃ y cc, c = .slice (some y) is.length cc ∧ is.length ≤ cc ∧ ∀ j u, (inC is)[j]? = some u → w.cell? (y.add j) = some u := by
    obtain ⟨ao, ca, h1, h2, h3, h4, h5⟩ := hc
    cases ao with
    | none => have := (h4 rfl).1; omega
    | some y => exact ⟨y, ca, h1, h2, h5 y rfl⟩
  subst hce
  have HH := Lib.hid hcell
  have HN := Lib.hid hnil
  have HI := Lib.hid hcell2
  have HK := Lib.hid hk
  have HP := Lib.hid hp
  rw [Nat.mod_eq_of_lt hn]
  obtain ⟨n0, h0⟩ : ∃ n, is[0]? = some n := ⟨_, List.getElem?_eq_getElem (by omega)⟩
  obtain ⟨m0, rfl, hm1, hm2⟩ := pageB_parts (hp n0 (List.mem_of_getElem? h0))
  have hd : is.headD 0 = (m0 : Int) := by cases is with
    | nil => simp at h0
    | cons z r => simp at h0; simpa using h0
  have i0 : w.cell? y = some (.int .i64 m0) := by
    have := hcell2 0 (.int .i64 m0) (by simp [inC, h0]); rwa [Addr.add_zero'] at this
  rw [hd, Int.toNat_natCast]
  clear hb hc hcell hnil hcell2 hk hp hd h0
  have q1 : IntKind.u8.wrap (ks.length : Int) = (ks.length : Int) := IntWalk.u8_in _ (by omega)
  have q2 : IntKind.u16.wrap (m0 : Int) = (m0 : Int) := IntWalk.u16_in _ (by omega)
  have hi1 : 0 < is.length := by omega
  obtain ⟨w0, hw0⟩ : ∃ w0 : World, w0 = w.alloc (.cells #[.bool lf, a, .slice bo ks.length cb, .slice (some y) is.length cc] 70) := ⟨_, rfl⟩
  have k0 : Blk w0 w.heap.size 70 #[.bool lf, a, .slice bo ks.length cb, .slice (some y) is.length cc] := by rw [hw0]; exact Blk.mk _ _ _
  have g0 : w.grownBy w0 none := by rw [hw0]; exact gb_alloc _ _ _
  have HW := Lib.hid hw0
  have HKI := Lib.hid hki
  clear hw0 hki
  go_enter Tryz.func116, Tryz.ntmps116
  go_wp2_with (first
    | (go_at_call 100; first
        | ((with_reducible refine (p8_at (.slice none 0 0) [] 2 2 rfl _ (Bs.nil _) (by omega) (by simp)).mono ?_); rintro e w2 ⟨v2, rfl, hb, hg⟩; rw [← HW.out] at hg; replace k0 := k0.keep0 hg; have c1 := k0.cell 2 rfl; replace g0 := gb_trans g0 hg; clear hg)
        | ((with_reducible refine (p8_at v2 _ _ ks.length rfl _ hb hn (by simp only [List.length_append, digits_length]; simp)).mono ?_); rintro e w3 ⟨v3, rfl, hb3, hg⟩; clear c1; replace k0 := k0.keep0 hg; have c2 := k0.cell 3 rfl; replace g0 := gb_trans g0 hg; replace i0 := g0.cell i0 (by simp); clear hg))
    | (go_at_call 110; (with_reducible refine (p16_at v3 _ _ m0 rfl _ hb3 (by omega) (by simp only [List.length_append, digits_length]; simp)).mono ?_); rintro e w4 ⟨v4, rfl, hb4, hg⟩; clear c2; replace k0 := k0.keep0 hg; have c3 := k0.cell 2 rfl; replace g0 := gb_trans g0 hg; clear hg))
  clear q1 q2 i0
  have HB4 := Lib.hid hb4
  clear hb hb3 hb4
  go_loopw [3, 23] (fun s i wr => ∃ k : Nat, k ≤ ks.length ∧ i = .int .i64 k ∧ Hid (Bs wr s (digits 2 1 ++ digits ks.length 1 ++ digits m0 2 ++ ((ks.zip is.tail).take k).flatMap pairL)) ∧ w4.grownBy wr none) (fun _ i _ => ks.length - (intOf i).toNat)
  case atStart => exact ⟨0, Nat.zero_le _, rfl, Lib.hid (by simpa using HB4.out), gb_refl _ _⟩
  case round =>
    obtain ⟨k, hk, rfl, hb, gr⟩ := hrel
    by_cases hlt : k < ks.length
    · have hki := HKI.out
      obtain ⟨x, hx⟩ : ∃ x, ks[k]? = some x := ⟨_, List.getElem?_eq_getElem hlt⟩
      obtain ⟨z, hz⟩ : ∃ z, is[k + 1]? = some z := ⟨_, List.getElem?_eq_getElem (by omega)⟩
      obtain ⟨m, rfl, hm3, hm4⟩ := pageB_parts (HP.out z (List.mem_of_getElem? hz))
      have hkx := HK.out x (List.mem_of_getElem? hx)
      have HE := Lib.hid (flat_take pairL (ks.zip is.tail) k (x, (m : Int)) (zip_at ks is k x m hx hz))
      have hbnd := flat_bound pairL (fun x => keySz x.1) pair_length (ks.zip is.tail) k
      rw [zip_sum _ _ (by rw [List.length_tail]; omega)] at hbnd
      have hbl : (digits 2 1 ++ digits ks.length 1 ++ digits m0 2 ++ ((ks.zip is.tail).take k).flatMap pairL).length ≤ 2000 := by simp only [List.length_append, digits_length]; omega
      obtain ⟨bl, hbe⟩ : ∃ bl, digits 2 1 ++ digits ks.length 1 ++ digits m0 2 ++ ((ks.zip is.tail).take k).flatMap pairL = bl := ⟨_, rfl⟩
      rw [hbe] at hb hbl
      have HBE := Lib.hid hbe
      have hxs : x.size ≤ 40 := by simp only [keyB, Bool.and_eq_true, decide_eq_true_eq] at hkx; omega
      cases bo with
      | none => have := HN.out rfl; omega
      | some x0 =>
        have gw := gb_trans g0 gr
        have c0 := gw.cell (HH.out _ rfl k _ (show _ = some (.string x) by simp [strsC, hx])) (by simp)
        have d0 := gw.cell (HI.out (k + 1) _ (show _ = some (.int .i64 m) by simp [inC, hz])) (by simp)
        replace d0 : wr.cell? ⟨y.block, y.off + (k + 1), none⟩ = some (.int .i64 m) := d0
        have k1 := k0.keep0 gr
        have q2 : IntKind.u16.wrap (m : Int) = (m : Int) := IntWalk.u16_in _ (by omega)
        have q3 : IntKind.i64.wrap ((k : Int) + 1) = (k : Int) + 1 := IntWalk.i64_in _ (by omega)
        have q4 : (0 : Int) ≤ (k : Int) + 1 := by omega
        have q5 : (k : Int) + 1 < (is.length : Int) := by omega
        clear hx hz hbe hbnd hkx hki gw
        go_wp2_with (first
          | (go_at_call 102; (with_reducible refine (pt_at _ _ x _ hb.out (by omega) (by omega)).mono ?_); rintro e w5 ⟨v5, rfl, hb5, hg⟩; replace d0 := hg.cell d0 (by simp); have c3' := (k1.keep0 hg).cell 3 rfl; replace gr := gb_trans gr hg; clear hg)
          | (go_at_call 110; (with_reducible refine (p16_at v5 _ _ m rfl _ hb5 (by omega) (by rw [List.length_append, textL_length]; omega)).mono ?_); rintro e w6 ⟨v6, rfl, hb6, hg⟩; have HB6 := Lib.hid hb6; clear hb5 hb6))
        go_roundw
        case rel => exact ⟨k + 1, by omega, by go_num, Lib.hid (by rw [HE.out, ← List.append_assoc, HBE.out, show pairL (x, (m : Int)) = textL x ++ digits m 2 from rfl, ← List.append_assoc]; exact HB6.out), gb_trans gr hg⟩
        case measure => simp [intOf]; omega
    · have hk2 : k = ks.length := by omega
      subst hk2
      have hki := HKI.out
      rw [List.take_of_length_le (by rw [List.length_zip, List.length_tail]; omega)] at hb
      go_wp2
      go_ret
      exact ⟨_, rfl, hb.out, gb_trans g0 gr⟩
end Go.Proofs.YthhimhjegodklaaGreat.N11

