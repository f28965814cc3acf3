/-
  The choices of a fate (fate.Put), over this seat's translation; conditions: the table of masks reads as the program lays it, the slice reads as a list of bools.
-/
import Derived.Test.YtcoegaipojnndaaDoorFm
import Derived.Test.YtcoegaipojnndaaDoorRr
namespace Go.Proofs.YtcoegaipojnndaaDoor
open Go.RowKit Go.Shelf
attribute [local go_sem] Oper.semAt_some

/-- The bytes behind the bits of some writes. -/
def orsOf {b : List Bool} (pre : List (Came b)) (S : Nat) : List UInt8 := (pre.map fun x => x.1.2).foldl orAt (List.replicate S 0)
theorem orsOf_snoc {b : List Bool} (pre : List (Came b)) (x : Came b) (S : Nat) : orsOf (pre ++ [x]) S = orAt (orsOf pre S) x.1.2 := by
  unfold orsOf; rw [List.map_append, List.foldl_append]; rfl
theorem orsOf_length {b : List Bool} (pre : List (Came b)) (S : Nat) : (orsOf pre S).length = S := by
  unfold orsOf; rw [foldl_or_length]; simp
theorem bytes_set (s : List UInt8) (q z : Nat) (hz : z < 256) : (bytesC s).toArray.setIfInBounds q (.int .u8 (z : Nat)) = (bytesC (s.set q (UInt8.ofNat z))).toArray := by
  rw [List.setIfInBounds_toArray]
  congr 1
  unfold bytesC
  rw [List.map_set, u8_of z hz]
theorem bts_of_blk {w : World} {b n : Nat} {l : List UInt8} (h : Blk w b 5 (bytesC l).toArray) (hn : l.length = n) : Bts w (.slice (some ⟨b, 0, none⟩) n n) l := by
  subst hn
  refine ⟨some ⟨b, 0, none⟩, l.length, rfl, Nat.le_refl _, by simp [bytesC], (fun e => by cases e), ?_⟩
  intro a e j u hj
  cases e
  have := h.cell j (v := u) (by rw [List.getElem?_toArray]; exact hj)
  rw [add_lit]; exact this
theorem cells3_new (w : World) (x y z : Value) (t : TypeId) : ∀ j u, [x, y, z][j]? = some u → (w.alloc (.cells #[x, y, z] t)).cell? ((⟨w.heap.size, 0, none⟩ : Addr).add j) = some u := by
  intro j u hj
  rw [add_lit]
  exact (Blk.mk w t #[x, y, z]).cell j (by rw [List.getElem?_toArray]; exact hj)
theorem one3 (x y z : Int) : ∀ u ∈ [Value.int .u8 x, .int .u8 y, .int .u8 z], u.oneCell' = true := by
  intro u hu
  simp at hu
  rcases hu with rfl | rfl | rfl <;> rfl
theorem bytes_app3 (l : List UInt8) (x y z : Nat) (hx : x < 256) (hy : y < 256) (hz : z < 256) : bytesC (l ++ [UInt8.ofNat x, UInt8.ofNat y, UInt8.ofNat z]) = bytesC l ++ [.int .u8 (x : Nat), .int .u8 (y : Nat), .int .u8 (z : Nat)] := by
  unfold bytesC
  rw [List.map_append]
  simp only [List.map_cons, List.map_nil, u8_of x hx, u8_of y hy, u8_of z hz]
theorem own_not {w : World} {base size n D : Nat} {e : TypeId} {v : Value} {xs : List Value} {x : Option (List Deferred)} (h : w.ownsRow base e size v n xs) (hK : w.heap[D]? = some (.deferred x)) : v.ownBlock ≠ some D := by
  rcases h.2 with ⟨rfl, _⟩ | ⟨g, cap, cur, rfl, _, hg, _⟩
  · intro h; cases h
  · intro h
    have h2 : some g = some D := h
    rw [Option.some.inj h2, hK] at hg
    cases hg
def PutGot (w : World) (l : List Bool) (t a : Int) (e : Ending) (w' : World) : Prop := ∃ v, e = .returned (.tuple #[v, .int .i64 (putE l t a)]) ∧ Bts w' v (putB l t a) ∧ w.grownBy w' none
theorem put_arg (l : List Bool) (t a : Int) (h : mayF l t a = false) : putE l t a = 2 ∧ putB l t a = [] := by
  unfold putE putB; rw [h]; exact ⟨rfl, rfl⟩
theorem put_long (l : List Bool) (t a : Int) (h : mayF l t a = true) (h2 : longF l t = true) : putE l t a = 4 ∧ putB l t a = [] := by
  unfold putE putB; rw [h, h2]; exact ⟨rfl, rfl⟩
theorem put_ok (l : List Bool) (t a : Int) (h : mayF l t a = true) (h2 : longF l t = false) : putE l t a = 0 ∧ putB l t a = bitsTo l l.length ++ tailB l t a := by
  unfold putE putB; rw [h, h2]; exact ⟨rfl, rfl⟩
theorem two_row {fn : Func} {p q : Tmp} (h : fn.results = #[.tmp p, .tmp q]) (tmps : Array Value) (P : Program) (w : World) : (results fn tmps).run P w = .ok (.tuple #[tmps.getD p undef, tmps.getD q undef]) w := by
  simp [results, h]
theorem Bts.nil (w : World) : Bts w (.slice none 0 0) [] := Sl.nil 1 w
set_option maxRecDepth 100000 in
set_option maxHeartbeats 1000000 in
theorem put_any (v : Value) (b : List Bool) (t a : Int) (w : World) (hm : Masks w) (hv : Bls w v b) (hb : b.length ≤ 1000000) : Calls Tryd.prog 8 #[.agg #[v, .int .i64 t, .int .i64 a]] w (PutGot w b t a) := by
  have HV := Lib.hid hv
  have HM := Lib.hid hm
  obtain ⟨A, hA⟩ : ∃ A, aheadN b t = A := ⟨_, rfl⟩
  have hAh : ∀ W, w.grownBy W none → Calls Tryd.prog 33 #[.agg #[v, .int .i64 t, .int .i64 a]] W fun e w' => e = .returned (.int .i64 (A : Nat)) ∧ W.grownBy w' none := by
    intro W g
    have h := aheadOf_any v b t a W (HV.out.keep0 g) hb
    unfold AheadGot at h
    rw [hA] at h
    exact h
  obtain ⟨S, hS⟩ : ∃ S, sizeN b.length = S := ⟨_, rfl⟩
  have hSz : ∀ W, Calls Tryd.prog 34 #[.int .i64 (b.length : Nat)] W fun e w' => e = .returned (.int .i64 (S : Nat)) ∧ W = w' := by
    intro W
    have h := sizeFor_any b.length W (by omega)
    unfold sizeN at hS
    rw [hS] at h
    exact h
  have hMy := fun W g => mayBe_any v b t a W (HV.out.keep0 g)
  have HAh := Lib.hid hAh
  have HMy := Lib.hid hMy
  have HSz := Lib.hid hSz
  have HA := Lib.hid hA
  have HS := Lib.hid hS
  clear hAh hMy hSz hA hS
  obtain ⟨ao, cap, rfl, hnil, hcells⟩ := bls_parts hv
  have HN := Lib.hid hnil
  have HC := Lib.hid hcells
  clear hnil hcells hv hm
  refine (callsIn_wide (n := 5)).1 ?_
  refine callsIn_of_wp_marks Tryd.func8 rfl trivial ?_ rfl
  simp only [Tryd.ntmps8, List.size_toArray, List.length_cons, List.length_nil, Nat.reduceAdd, Nat.reduceSub, Array.replicate_succ, Array.replicate_zero, List.push_toArray, List.append_toArray, List.nil_append, List.cons_append]
  gi_wp2_with fail
  have g0 := gb_alloc w (.cells #[.slice ao b.length cap, .int .i64 t, .int .i64 a] 25) none
  have b0 := Blk.mk w 25 #[.slice ao b.length cap, .int .i64 t, .int .i64 a]
  generalize w.alloc (.cells #[.slice ao b.length cap, .int .i64 t, .int .i64 a] 25) = W0 at g0 b0 ⊢
  refine ⟨trivial, ?_⟩
  gi_at_call 32
  (with_reducible refine (callsIn_wide.2 (HMy.out W0 g0)).mono ?_)
  rintro e w1 ⟨rfl, g1⟩
  replace b0 := b0.keep0 g1
  replace g0 := gb_trans g0 g1
  clear g1
  cases hmay : mayF b t a with
  | false =>
    have HP := Lib.hid (put_arg b t a hmay)
    clear hmay
    gi_wp2
    exact ⟨_, two_row rfl _ _ _, _, by rw [HP.out.1]; rfl, by rw [HP.out.2]; exact Bts.nil _, g0⟩
  | true =>
    have c00 := b0.cell 0 rfl
    have c01 := b0.cell 1 rfl
    have c02 := b0.cell 2 rfl
    have Hmay := Lib.hid hmay
    clear hmay
    gi_wp2_with fail
    refine ⟨trivial, ?_⟩
    gi_at_call 33
    (with_reducible refine (callsIn_wide.2 (HAh.out w1 g0)).mono ?_)
    rintro e w2 ⟨rfl, g2⟩
    replace b0 := b0.keep0 g2
    replace g0 := gb_trans g0 g2
    clear c00 c01 c02 HAh HMy g2
    have c00 := b0.cell 0 rfl
    have c01 := b0.cell 1 rfl
    have c02 := b0.cell 2 rfl
    by_cases hA1 : 127 < A
    · have HP := Lib.hid (put_long b t a Hmay.out (by unfold longF; rw [HA.out, decide_eq_true hA1]; rfl))
      have hd : decide ((127 : Int) < (A : Int)) = true := decide_eq_true (by omega)
      gi_wp2
      exact ⟨_, two_row rfl _ _ _, _, by rw [HP.out.1]; rfl, by rw [HP.out.2]; exact Bts.nil _, g0⟩
    · have hd : decide ((127 : Int) < (A : Int)) = false := decide_eq_false (by omega)
      by_cases hL : 4096 < b.length
      · have HP := Lib.hid (put_long b t a Hmay.out (by unfold longF; rw [HA.out, decide_eq_true hL]; simp))
        have hd2 : decide ((4096 : Int) < (b.length : Int)) = true := decide_eq_true (by omega)
        gi_wp2
        exact ⟨_, two_row rfl _ _ _, _, by rw [HP.out.1]; rfl, by rw [HP.out.2]; exact Bts.nil _, g0⟩
      · have HP := Lib.hid (put_ok b t a Hmay.out (by unfold longF; rw [HA.out, decide_eq_false hL, decide_eq_false hA1]; rfl))
        have hd2 : decide ((4096 : Int) < (b.length : Int)) = false := decide_eq_false (by omega)
        have hSb : S ≤ 512 := by have := HS.out; unfold sizeN at this; omega
        have mk : ∀ W, (Instr.makeSlice 29 (.int .i64 (S : Nat)) (.int .i64 (S : Nat))).run Tryd.prog W = .ok (.slice (some ⟨W.heap.size, 0, none⟩) S S) (W.alloc (.cells (bytesC (List.replicate S 0)).toArray 5)) := fun W => make_bytes S (S : Nat) W rfl (by omega)
        have hl0 := b0.lt
        gi_wp2_with (refine ⟨trivial, ?_⟩; first
          | (gi_at_call 34; (with_reducible refine (callsIn_wide.2 (HSz.out _)).mono ?_); rintro e w' ⟨rfl, rfl⟩)
          | (gi_at_call 35; (with_reducible refine (callsIn_wide.2 (arrived_any _ _ _ _)).mono ?_); rintro e w' ⟨rfl, rfl⟩))
        have k0 := ((Blk.mk w2 5 (bytesC (List.replicate S 0)).toArray).keep0 (gb_alloc _ (.cells #[.slice (some ⟨w2.heap.size, 0, none⟩) S S] 29) none)).keep0 (gb_alloc _ (.cells #[.slice ao b.length cap] 23) none)
        have k1 := (Blk.mk (w2.alloc (.cells (bytesC (List.replicate S 0)).toArray 5)) 29 #[.slice (some ⟨w2.heap.size, 0, none⟩) S S]).keep0 (gb_alloc _ (.cells #[.slice ao b.length cap] 23) none)
        have k2 := Blk.mk ((w2.alloc (.cells (bytesC (List.replicate S 0)).toArray 5)).alloc (.cells #[.slice (some ⟨w2.heap.size, 0, none⟩) S S] 29)) 23 #[.slice ao b.length cap]
        have g3 : w2.grownBy (((w2.alloc (.cells (bytesC (List.replicate S 0)).toArray 5)).alloc (.cells #[.slice (some ⟨w2.heap.size, 0, none⟩) S S] 29)).alloc (.cells #[.slice ao b.length cap] 23)) none := gb_trans (gb_trans (gb_alloc _ _ _) (gb_alloc _ _ _)) (gb_alloc _ _ _)
        have hsz : (((w2.alloc (.cells (bytesC (List.replicate S 0)).toArray 5)).alloc (.cells #[.slice (some ⟨w2.heap.size, 0, none⟩) S S] 29)).alloc (.cells #[.slice ao b.length cap] 23)).heap.size = w2.heap.size + 3 := by simp
        simp only [World.size_alloc] at k1 k2
        generalize ((w2.alloc (.cells (bytesC (List.replicate S 0)).toArray 5)).alloc (.cells #[.slice (some ⟨w2.heap.size, 0, none⟩) S S] 29)).alloc (.cells #[.slice ao b.length cap] 23) = W3 at k0 k1 k2 g3 hsz ⊢
        replace b0 := b0.keep0 g3
        replace g0 := gb_trans g0 g3
        clear c00 c01 c02 mk
        refine wpIn_rangeFunc_ownF (a₁ := ?fr) rfl (by omega) (gf := 50) (lb := #[.pointer (some ⟨w2.heap.size + 1 + 1, 0, none⟩)]) rfl trivial (enters_of Tryd.func50 (by kernel_rfl) rfl)
          (arrived_stops Fence.wide _ trivial rfl (by omega) (w2.heap.size + 1 + 1) w.heap.size ao cap b hb W3 (by omega) (by omega) (k2.cell 0 rfl) HN.out (fun a e hp => low_of HC.out a e hp) (fun a e j u hj => g0.cell (HC.out a e j u hj) (by simp))) kept_t kept_b (Below.refl _ _) (fun _ => rfl)
          (fun pre W => Blk W w.heap.size 25 #[.slice ao b.length cap, .int .i64 t, .int .i64 a] ∧ Blk W w2.heap.size 5 (bytesC (orsOf pre S)).toArray ∧ Blk W (w2.heap.size + 1) 29 #[.slice (some ⟨w2.heap.size, 0, none⟩) S S] ∧ Below w.heap.size w W)
          (fun _ _ _ => False)
          (OwnFrom.and (blk_own _ _ _ _) (OwnFrom.and (blk_own _ _ _ (fun pre => (bytesC (orsOf pre S)).toArray)) (OwnFrom.and (blk_own _ _ _ _) (ownFrom_below (Nat.le_refl _) (by omega)))))
          (fun _ _ _ _ _ hs _ _ => hs)
          ⟨b0, k0, k1, gb_below g0⟩
          ?assign ?body ?done ?stop
        case assign =>
          intro l x W K hK
          gi_wp2
          exact hK
        case body =>
          rintro l pre x W ⟨hT0, hT1, hT2, hB⟩ hpl
          have hxl := x.2.1
          have hfold := Lib.hid (orsOf_snoc pre x S)
          have hlen := orsOf_length pre S
          generalize orsOf pre S = s at hT1 hlen hfold
          obtain ⟨i, hi⟩ : ∃ i, x.1.2 = i := ⟨_, rfl⟩
          obtain ⟨q, hq⟩ : ∃ q, i / 8 = q := ⟨_, rfl⟩
          obtain ⟨r, hr⟩ : ∃ r, i % 8 = r := ⟨_, rfl⟩
          have hqS : q < S := by have := HS.out; unfold sizeN at this; omega
          have hr8 : r < 8 := by omega
          have e1 : IntKind.i64.wrap ((i : Int) / 8) = (q : Int) := by
            rw [show (i : Int) / 8 = (q : Int) by omega]; exact IntWalk.i64_in _ (by omega)
          have e2 : (i : Int).tmod 8 = (r : Int) := by rw [Int.tmod_eq_emod_of_nonneg (by omega)]; omega
          have e3 : IntKind.i64.wrap (r : Int) = (r : Int) := IntWalk.i64_in _ (by omega)
          have e5 : IntKind.i64.wrap (q : Int) = (q : Int) := IntWalk.i64_in _ (by omega)
          have e4 : (i : Int).tdiv 8 = (q : Int) := by rw [Int.tdiv_eq_ediv_of_nonneg (by omega)]; omega
          have m0 := (hB.cell (cell_lt (HM.out r hr8))).trans (HM.out r hr8)
          have c0 := hT2.cell 0 rfl
          have d0 := hT1.cell q (v := .int .u8 ((s.getD q 0).toNat : Nat)) (by rw [List.getElem?_toArray]; exact bytes_at (by omega))
          have f0 := hT1.free q
          have hor := bits_or ⟨(s.getD q 0).toNat, UInt8.toNat_lt _⟩ ⟨r, hr8⟩
          simp only at hor
          have hst : orAt s i = s.set q (UInt8.ofNat ((s.getD q 0).toNat ||| 2 ^ r)) := by unfold orAt; rw [hq, hr]
          have hbo := byte_or_lt (s.getD q 0) r hr8
          have HST := Lib.hid (And.intro hst hbo)
          have HI := Lib.hid hi
          generalize (s.getD q 0).toNat = c at *
          obtain ⟨z, hz⟩ : ∃ z, c ||| 2 ^ r = z := ⟨_, rfl⟩
          rw [hz] at hor
          have HZ := Lib.hid hz
          clear hz hst hbo hq hr
          have hmx : Tryd.prog.follows .mixedOrders = true := by kernel_rfl
          have q1 : (q : Int) < (S : Int) := by omega
          have q2 : (0 : Int) ≤ (q : Int) := by omega
          have r1 : (r : Int) < 8 := by omega
          have r2 : (0 : Int) ≤ (r : Int) := by omega
          rw [hi]
          clear hi
          have hn0 : Blk (W.setCell ⟨w2.heap.size, q, none⟩ (.int .u8 (z : Nat))) w2.heap.size 5 (bytesC (orAt s i)).toArray := by
            rw [HST.out.1, ← bytes_set s q _ HST.out.2, ← HZ.out]; exact hT1.set q _
          have hn1 : Blk (W.setCell ⟨w2.heap.size, q, none⟩ (.int .u8 (z : Nat))) (w2.heap.size + 1) 29 #[.slice (some ⟨w2.heap.size, 0, none⟩) S S] := hT2.keep (gb_set _ _ _ _ _) (ne_some (by omega))
          have hn3 : Below w.heap.size w (W.setCell ⟨w2.heap.size, q, none⟩ (.int .u8 (z : Nat))) := hB.setCell (p := ⟨w2.heap.size, q, none⟩) (by show w.heap.size ≤ w2.heap.size; omega) _
          have hn2 := (hn3.cell (cell_lt (HM.out r hr8))).trans (HM.out r hr8)
          have hn4 : Blk (W.setCell ⟨w2.heap.size, q, none⟩ (.int .u8 (z : Nat))) w.heap.size 25 #[.slice ao b.length cap, .int .i64 t, .int .i64 a] := hT0.keep (gb_set _ _ _ _ _) (ne_some (by omega))
          have hn5 : Kept w.heap.size W (W.setCell ⟨w2.heap.size, q, none⟩ (.int .u8 (z : Nat))) := kept_below ((Below.refl _ W).setCell (p := ⟨w2.heap.size, q, none⟩) (by show w.heap.size ≤ w2.heap.size; omega) _)
          have HN0 := Lib.hid hn0
          have HN1 := Lib.hid hn1
          have HN2 := Lib.hid hn2
          have HN3 := Lib.hid hn3
          have HN4 := Lib.hid hn4
          have HN5 := Lib.hid hn5
          clear hn0 hn1 hn2 hn3 hn4 hn5
          gi_wp2_with fail
          refine wpIn_region_round (S := fun w' => w'.cell? ⟨w2.heap.size + 1, 0, none⟩ = some (.slice (some ⟨w2.heap.size, 0, none⟩) S S) ∧ w'.cell? ⟨0, r, none⟩ = some (.int .u8 ((2 ^ r : Nat) : Int))) (by kernel_rfl) (by kernel_rfl) ⟨c0, m0⟩ (fun hHeld => ?_) (by rintro ⟨_, _, h⟩; exact h)
          refine wpAnyH_take (i := 0) (v := ?_) (List.getElem?_toArray.trans rfl) (by kernel_rfl) (by kernel_rfl) (by kernel_rfl) (fun _ _ _ h => h) (Or.inl ⟨by rfl, ?_⟩) hHeld ?_
          rotate_left
          · intro w' hSw; obtain ⟨s1, s2⟩ := hSw; go_simp; try with_reducible rfl
          try simp only [Act.put, List.setIfInBounds_toArray, List.set_cons_zero, List.set_cons_succ]
          refine wpAnyH_take (i := 1) (v := ?_) (List.getElem?_toArray.trans rfl) (by kernel_rfl) (by kernel_rfl) (by kernel_rfl) (fun _ _ _ h => h) (Or.inl ⟨by rfl, ?_⟩) hHeld ?_
          rotate_left
          · intro w' hSw; obtain ⟨s1, s2⟩ := hSw; go_simp; try with_reducible rfl
          try simp only [Act.put, List.setIfInBounds_toArray, List.set_cons_zero, List.set_cons_succ]
          refine wpAnyH_take (i := 2) (v := ?_) (List.getElem?_toArray.trans rfl) (by kernel_rfl) (by kernel_rfl) (by kernel_rfl) (fun _ _ _ h => h) (Or.inl ⟨by rfl, ?_⟩) hHeld ?_
          rotate_left
          · intro w' hSw; obtain ⟨s1, s2⟩ := hSw; go_simp; try with_reducible rfl
          try simp only [Act.put, List.setIfInBounds_toArray, List.set_cons_zero, List.set_cons_succ]
          refine wpAnyH_take (i := 3) (v := ?_) (List.getElem?_toArray.trans rfl) (by kernel_rfl) (by kernel_rfl) (by kernel_rfl) (fun _ _ _ h => h) (Or.inl ⟨by rfl, ?_⟩) hHeld ?_
          rotate_left
          · intro w' hSw; obtain ⟨s1, s2⟩ := hSw; go_simp; try with_reducible rfl
          try simp only [Act.put, List.setIfInBounds_toArray, List.set_cons_zero, List.set_cons_succ]
          refine wpAnyH_take (i := 5) (v := ?_) (List.getElem?_toArray.trans rfl) (by kernel_rfl) (by kernel_rfl) (by kernel_rfl) (fun _ _ _ h => h) (Or.inl ⟨by rfl, ?_⟩) hHeld ?_
          rotate_left
          · intro w' hSw; obtain ⟨s1, s2⟩ := hSw; go_simp; try with_reducible rfl
          try simp only [Act.put, List.setIfInBounds_toArray, List.set_cons_zero, List.set_cons_succ]
          refine wpAnyH_take (i := 6) (v := ?_) (List.getElem?_toArray.trans rfl) (by kernel_rfl) (by kernel_rfl) (by kernel_rfl) (fun _ _ _ h => h) (Or.inl ⟨by rfl, ?_⟩) hHeld ?_
          rotate_left
          · intro w' hSw; obtain ⟨s1, s2⟩ := hSw; go_simp; try with_reducible rfl
          try simp only [Act.put, List.setIfInBounds_toArray, List.set_cons_zero, List.set_cons_succ]
          refine wpAnyH_take (i := 7) (v := ?_) (List.getElem?_toArray.trans rfl) (by kernel_rfl) (by kernel_rfl) (by kernel_rfl) (fun _ _ _ h => h) (Or.inl ⟨by rfl, ?_⟩) hHeld ?_
          rotate_left
          · intro w' hSw; obtain ⟨s1, s2⟩ := hSw; go_simp; try with_reducible rfl
          try simp only [Act.put, List.setIfInBounds_toArray, List.set_cons_zero, List.set_cons_succ]
          refine wpAnyH_take (i := 8) (v := ?_) (List.getElem?_toArray.trans rfl) (by kernel_rfl) (by kernel_rfl) (by kernel_rfl) (fun _ _ _ h => h) (Or.inl ⟨by rfl, ?_⟩) hHeld ?_
          rotate_left
          · intro w' hSw; obtain ⟨s1, s2⟩ := hSw; go_simp; try with_reducible rfl
          try simp only [Act.put, List.setIfInBounds_toArray, List.set_cons_zero, List.set_cons_succ]
          refine wpAnyH_ready (rs := [4]) (by kernel_rfl) (by simp) ?_
          refine AllReadyH.cons (List.getElem?_toArray.trans rfl) (fun K hK => ?_) AllReadyH.nil
          go_simp
          refine hK.out _ _ ⟨c0, m0⟩ (fun hHeld => ?_)
          clear hK K
          try simp only [Act.put, List.setIfInBounds_toArray, List.set_cons_zero, List.set_cons_succ]
          refine wpAnyH_take (i := 9) (v := ?_) (List.getElem?_toArray.trans rfl) (by kernel_rfl) (by kernel_rfl) (by kernel_rfl) (fun _ _ _ h => h) (Or.inl ⟨by rfl, ?_⟩) hHeld ?_
          rotate_left
          · intro w' hSw; obtain ⟨s1, s2⟩ := hSw; go_simp; try with_reducible rfl
          try simp only [Act.put, List.setIfInBounds_toArray, List.set_cons_zero, List.set_cons_succ]
          refine wpAnyH_take (i := 10) (v := ?_) (List.getElem?_toArray.trans rfl) (by kernel_rfl) (by kernel_rfl) (by kernel_rfl) (fun _ _ _ h => h) (Or.inl ⟨by rfl, ?_⟩) hHeld ?_
          rotate_left
          · intro w' hSw; obtain ⟨s1, s2⟩ := hSw; go_simp; try with_reducible rfl
          try simp only [Act.put, List.setIfInBounds_toArray, List.set_cons_zero, List.set_cons_succ]
          refine wpAnyH_ready (rs := [11]) (by kernel_rfl) (by simp) ?_
          refine AllReadyH.cons (List.getElem?_toArray.trans rfl) (fun K hK => ?_) AllReadyH.nil
          go_simp
          refine hK.out _ _ ⟨(HN1.out).cell 0 rfl, HN2.out⟩ (fun hHeld => ?_)
          clear hK K
          try simp only [Act.put, List.setIfInBounds_toArray, List.set_cons_zero, List.set_cons_succ]
          refine wpAnyH_done (by kernel_rfl) ?_ _
          refine NoPanic.normal ?_
          refine ⟨(KeepsOthers.setCell _ _ _).trans (KeepsOthers.drew _), fun p v hp hv => HN5.out p v hp hv, HN4.out.keep0 (gb_drew _ _), ?_, HN1.out.keep0 (gb_drew _ _), HN3.out.drew⟩
          rw [hfold.out, HI.out]
          exact HN0.out.keep0 (gb_drew _ _)
        case done =>
          rintro D ys W hD hys ⟨hT0, hT1, hT2, hB⟩ hK
          have hbits : orsOf ys S = bitsTo b b.length := by unfold orsOf bitsTo; rw [hys, HS.out]
          rw [hbits] at hT1
          have hlenB := bitsTo_length b b.length
          rw [HS.out] at hlenB
          have c0 := hT2.cell 0 rfl
          have a1 := hT0.cell 1 rfl
          have a2 := hT0.cell 2 rfl
          have HY := Lib.hid hys
          clear hys hbits
          rcases may_cases Hmay.out with ⟨rfl, rfl⟩ | ⟨i, rfl, hib, hbi, ha0, ha1⟩
          · gi_wp2
            refine ⟨by simp, .inl ⟨_, _, rfl, run_takeDeferred hK, ?_⟩⟩
            refine ⟨_, two_row rfl _ _ _, _, by rw [HP.out.1]; rfl, ?_, gb_step (gb_of_below hB) (grownBy_putObj' _ D _) (by omega)⟩
            rw [HP.out.2]
            unfold tailB
            rw [if_pos rfl, List.append_nil]
            exact bts_of_blk (hT1.keep (grownBy_putObj' _ D _) (ne_some (by omega))) hlenB
          · obtain ⟨an, rfl⟩ := Int.eq_ofNat_of_zero_le ha0
            have hne : ((i : Int) == -1) = false := beq_eq_false_iff_ne.2 (by omega)
            obtain ⟨i0, hi, hz0, hz1, hz2⟩ := info_parts Tryd.infoByte
            have own : W.ownsRow w.heap.size 5 1 (.slice (some ⟨w2.heap.size, 0, none⟩) S S) S (bytesC (bitsTo b b.length)) :=
              ⟨by rw [show (bytesC (bitsTo b b.length)).length = (bitsTo b b.length).length by simp [bytesC], hlenB, Nat.mul_one], .inr ⟨w2.heap.size, S, _, rfl, by omega, hT1, Nat.le_refl _, by unfold maxLen; omega, by simp [bytesC, hlenB], by rw [List.toList_toArray, Nat.mul_one]; exact List.take_of_length_le (by simp [bytesC, hlenB])⟩⟩
            have htail : tailB b (i : Nat) (an : Nat) = [UInt8.ofNat A, UInt8.ofNat (an / 256), UInt8.ofNat (an % 256)] := by
              unfold tailB; rw [if_neg (by omega), HA.out]; rfl
            have HTl := Lib.hid htail
            have HLB := Lib.hid hlenB
            clear htail hlenB hbi
            have hDsz := hD
            gi_wp2_with (gi_at_builtin; refine wpListIn_append_own _ rfl _ _ 29 rfl w.heap.size 5 i0 (.int .u8 0) 1 1 Tryd.underlying29 hi hz0 hz1 hz2 rfl (by decide) _ _ _ rfl (own.alloc _) ⟨W.heap.size, 0, none⟩ 3 3 [.int .u8 (A : Nat), .int .u8 ((an : Int) / 256), .int .u8 ((an : Int) % 256)] rfl rfl (cells3_new _ _ _ _ _) (one3 _ _ _) (by unfold maxLen; omega) (by omega) (by have := hB.size; simp; omega) ?_; intro v3 w3 own3 g3 _)
            have hDl : D < W.heap.size := (Array.getElem?_eq_some_iff.1 hK).1
            have hK3 : w3.heap[D]? = some (.deferred (some [])) := (g3.block D (by rw [World.size_alloc]; omega) (fun e => by have e2 : some D = some w2.heap.size := e; have := Option.some.inj e2; omega)).trans ((Below.heap_alloc W _ D hDl).trans hK)
            refine ⟨by simp, .inl ⟨_, _, rfl, run_takeDeferred hK3, ?_⟩⟩
            refine ⟨_, two_row rfl _ _ _, _, by rw [HP.out.1]; rfl, ?_, ?_⟩
            · rw [HP.out.2, HTl.out]
              have hb3 := Sl.of_owns (own3.kept (grownBy_putObj' w3 D (.deferred none)) (Or.inr ?_))
              · show Sl 1 _ _ _ _
                rw [show (bitsTo b b.length ++ [UInt8.ofNat A, UInt8.ofNat (an / 256), UInt8.ofNat (an % 256)]).length = S + 3 by simp [HLB.out]]
                rw [bytes_app3 _ A (an / 256) (an % 256) (by omega) (by omega) (by omega)]
                exact hb3
              · exact own_not own3 hK3
            · exact gb_step (gb_app (gb_of_below hB) own (Nat.le_refl _) g3) (grownBy_putObj' _ D _) (by omega)
        case stop =>
          rintro D c pre W _ _ h _
          exact h.elim
end Go.Proofs.YtcoegaipojnndaaDoor

