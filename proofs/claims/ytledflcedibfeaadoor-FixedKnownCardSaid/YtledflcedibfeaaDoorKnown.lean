/-
  FixedKnown's walk, over this seat's translation: it returns true, and nothing that was there has turned; condition: the variable errors.errorType holds its type's handle.
-/
import Derived.Test.YtledflcedibfeaaDoorKt
import Derived.Test.YtledflcedibfeaaDoorKi
namespace Go.Proofs.YtledflcedibfeaaDoor
open Go.RowKit

/-- What each operation of the last statement yields. -/
def ksK (S : ByteArray) (b1 b2 b3 b4 b5 b6 b7 : Nat) (vx vy : Value) : List Kf := [.val (.bool true),
  .val (.bool true),
  .val (.bool true),
  .val (.bool true),
  .val (.int .u8 0),
  .val (.bool true),
  .val (.bool true),
  .val (.bool true),
  .val (.iface 77 (.pointer (some ⟨b1, 0, none⟩))),
  .val (.agg #[.int .i64 1, .int .i64 0]),
  .val (.bool true),
  .val (.bool true),
  .val (.bool true),
  .val (.int .u64 0),
  .val (.bool true),
  .val (.bool true),
  .val (.bool true),
  .val (.iface 77 (.pointer (some ⟨b2, 0, none⟩))),
  .val (.agg #[.int .i64 1, .int .i64 0]),
  .val (.bool true),
  .val (.bool true),
  .val (.bool true),
  .val (.string ⟨#[]⟩),
  .val (.bool true),
  .val (.bool true),
  .val (.bool true),
  .val (.iface 77 (.pointer (some ⟨b3, 0, none⟩))),
  .val (.agg #[.int .i64 1, .int .i64 0]),
  .val (.bool true),
  .val (.bool true),
  .val (.bool true),
  .val (.iface 77 (.pointer (some ⟨b4, 0, none⟩))),
  .val (.agg #[.int .i64 1, .int .i64 0]),
  .val (.bool true),
  .val (.bool true),
  .val (.bool true),
  .val (.pointer none),
  .val (.int .i64 0),
  .val (.bool true),
  .val (.bool true),
  .val (.bool true),
  .val (.pointer none),
  .val (.int .i64 0),
  .val (.bool true),
  .val (.bool true),
  .val (.bool true),
  .val (.pointer none),
  .flt 1 0,
  .val (.agg #[.int .i64 1, .int .i64 0]),
  .val (.bool true),
  .val (.bool true),
  .val (.bool true),
  .val (.string S),
  .val (.string S),
  .val (.bool true),
  .val (.bool true),
  .val (.bool true),
  .val (.nilIface),
  .val (.bool true),
  .val (.bool true),
  .val (.bool true),
  .val (.pointer (some ⟨b7, 0, none⟩)),
  .flt 4 256,
  .val (.agg #[.int .i64 4, .int .i64 256]),
  .val (.bool true),
  .val (.bool true),
  .val (.bool true),
  .val (.iface 77 (.pointer (some ⟨b5, 0, none⟩))),
  .val (.agg #[.int .i64 2, .int .i64 0]),
  .val (.bool true),
  .val (.bool true),
  .val (.bool true),
  .val (.string ⟨#[]⟩),
  .val (.bool true),
  .val (.bool true),
  .val (.bool true),
  .val (.nilIface),
  .val (.bool true),
  .val (.bool true),
  .val (.bool true),
  .val (.iface 77 (.pointer (some ⟨b6, 0, none⟩))),
  .val (.agg #[.int .i64 3, .int .i64 1]),
  .val (.bool true),
  .val (.bool true),
  .val (.bool true),
  .lit,
  .lit,
  .val (.string S),
  .val (.string (S ++ ⟨#[120]⟩)),
  .bs [113],
  .val (.string ⟨#[113]⟩),
  .val (.bool true),
  .val (.bool true),
  .val (.bool true),
  .val (vx),
  .val (.string ⟨#[0, 1]⟩),
  .val (.bool true),
  .val (.bool true),
  .val (.bool true),
  .val (vy),
  .val (.string ⟨#[0, 2]⟩),
  .val (.bool true),
  .val (.bool true),
  .val (.bool true),
  .bs [255, 255, 255, 255, 255, 255, 255, 255],
  .val (.string ⟨#[255, 255, 255, 255, 255, 255, 255, 255]⟩),
  .val (.bool true),
  .val (.bool true),
  .val (.bool true)]
/-- The 255 noughts that the statement makes, as bytes and as cells. -/
def l255 : List UInt8 := List.replicate 255 0
def z255 : Array Value := (bcells l255).toArray
theorem l255_length : l255.length = 255 := by unfold l255; exact List.length_replicate
theorem kn_make255 (w : World) : (Instr.makeSlice 49 (.int .i64 255) (.int .i64 255)).run Tryd.prog w = .ok (.slice (some ⟨w.heap.size, 0, none⟩) 255 255) (w.alloc (.cells z255 5)) := by kernel_rfl
theorem kn_make8 (w : World) : (Instr.makeSlice 49 (.int .i64 1) (.int .i64 8)).run Tryd.prog w = .ok (.slice (some ⟨w.heap.size, 0, none⟩) 1 8) (w.alloc (.cells #[.int .u8 0, .int .u8 0, .int .u8 0, .int .u8 0, .int .u8 0, .int .u8 0, .int .u8 0, .int .u8 0] 5)) := by kernel_rfl
theorem bs_block (w : World) (l : List UInt8) : Bs (w.alloc (.cells (bcells l).toArray 5)) (.slice (some ⟨w.heap.size, 0, none⟩) l.length l.length) l := by
  refine ⟨some ⟨w.heap.size, 0, none⟩, l.length, rfl, Nat.le_refl _, (fun e => by cases e), ?_⟩
  intro a e j u hj
  cases e
  have h := Blk.cell (Blk.mk w 5 (bcells l).toArray) j (v := u) (by simpa using hj)
  have e : (⟨w.heap.size, 0, none⟩ : Addr).add j = ⟨w.heap.size, j, none⟩ := by rw [Addr.add_lit, Nat.zero_add]
  rw [e]
  exact h
theorem kn_bs255 (w : World) : Bs (w.alloc (.cells z255 5)) (.slice (some ⟨w.heap.size, 0, none⟩) 255 255) l255 := by
  have h := bs_block w l255
  rw [l255_length] at h
  exact h
theorem kn_bs1 (w : World) : Bs (w.alloc (.cells #[.int .u8 0, .int .u8 0, .int .u8 0, .int .u8 0, .int .u8 0, .int .u8 0, .int .u8 0, .int .u8 0] 5)) (.slice (some ⟨w.heap.size, 0, none⟩) 1 8) [0] := by
  refine ⟨some ⟨w.heap.size, 0, none⟩, 8, rfl, by decide, (fun e => by cases e), ?_⟩
  intro a e j u hj
  cases e
  obtain rfl : j = 0 := by
    have := (List.getElem?_eq_some_iff.1 hj).1
    simpa [bcells] using this
  have hu : u = .int .u8 0 := by simpa [bcells] using hj.symm
  subst hu
  simp [Addr.add]
theorem kn_bsq (w : World) : Bs (w.alloc (.cells #[.int .u8 113] 5)) (.slice (some ⟨w.heap.size, 0, none⟩) 1 1) [113] := by
  refine ⟨some ⟨w.heap.size, 0, none⟩, 1, rfl, by decide, (fun e => by cases e), ?_⟩
  intro a e j u hj
  cases e
  exact cell_new w (.int .u8 113) 5 j u (by simpa [bcells] using hj)
theorem kn_p8 (v : Value) (w : World) (h : Bs w v [0]) (n : Nat) (hn : n < 256) : Calls Tryd.prog 25 #[v, .int .u8 n] w (Laid w ([0] ++ digits n 1)) :=
  p8_any v [0] n w h hn (by decide)
theorem kn_p64 (w : World) : Calls Tryd.prog 26 #[.slice none 0 0, .int .u64 18446744073709551615] w (Laid w [255, 255, 255, 255, 255, 255, 255, 255]) :=
  (p64_any (.slice none 0 0) [] 18446744073709551615 w (Bs.nil w) (by decide) (by decide)).mono fun _ _ h => laid_as h (by decide)
/-- The text that the statement reads: a length, 255 noughts, one byte more. -/
theorem kn_text (S X : ByteArray) (hS : S = ⟨l255.toArray⟩) (hX : X = (⟨#[255]⟩ : ByteArray) ++ S ++ (⟨#[122]⟩ : ByteArray)) : S.size = 255 ∧ X.size = 257 ∧ valAt X 0 1 = 255 ∧ X.extract 1 256 = S := by
  have h1 : S.data.toList = l255 := by rw [hS]
  have h2 : S.size = 255 := by rw [← ByteArray.size_data, ← Array.length_toList, h1, l255_length]
  have h3 : X.data.toList = 255 :: (S.data.toList ++ [122]) := by rw [hX]; simp
  have hl : S.data.toList.length = 255 := by rw [h1, l255_length]
  refine ⟨h2, ?_, ?_, ?_⟩
  · rw [← ByteArray.size_data, ← Array.length_toList, h3]; simp [hl]
  · unfold valAt; rw [h3]; simp [nat8]
  · apply ByteArray.ext
    apply Array.ext'
    have : (X.extract 1 256).data.toList = (X.data.toList.drop 1).take 255 := by simp
    rw [this, h3]
    simp [hl]

set_option maxRecDepth 100000 in
set_option maxHeartbeats 8000000 in
theorem known_walk (w : World) (hd : Hd w) : Calls Tryd.prog 7 #[] w fun e w' => e = .returned (.bool true) ∧ w.grownBy w' none := by
  have h0 := hd.lt
  go_enter Tryd.func7, Tryd.ntmps7
  go_wp2_with fail
  obtain ⟨w1, hw1⟩ : ∃ w1 : World, w1 = w.alloc (.cells #[.int .i64 1, .int .i64 0] 36) := ⟨_, rfl⟩
  have nul : Ft w1 w.heap.size 1 0 := by rw [hw1]; exact Blk.mk _ _ _
  have g1 : w.grownBy w1 none := by rw [hw1]; exact gb_alloc _ _ _
  rw [← hw1]
  clear hw1
  ((with_reducible refine (u8_nil _).mono ?_); rintro e w2 ⟨rfl, hw⟩)
  have fb : Ft w2 w1.heap.size 1 0 := by rw [hw]; exact Blk.mk _ _ _
  have a2 : w1.grownBy w2 none := by rw [hw]; exact gb_alloc _ _ _
  clear hw
  replace nul := nul.keep0 a2
  have g2 := gb_trans g1 a2
  clear a2 g1
  go_wp2_with fail
  ((with_reducible refine (u64_nil _).mono ?_); rintro e w3 ⟨rfl, hw⟩)
  have fd : Ft w3 w2.heap.size 1 0 := by rw [hw]; exact Blk.mk _ _ _
  have a3 : w2.grownBy w3 none := by rw [hw]; exact gb_alloc _ _ _
  clear hw
  replace nul := nul.keep0 a3
  replace fb := fb.keep0 a3
  have g3 := gb_trans g2 a3
  clear a3 g2
  go_wp2_with fail
  ((with_reducible refine (text_nil _ _).mono ?_); rintro e w4 ⟨bff, rfl, _, ff, a4⟩)
  replace nul := nul.keep0 a4
  replace fb := fb.keep0 a4
  replace fd := fd.keep0 a4
  have g4 := gb_trans g3 a4
  clear a4 g3
  go_wp2_with fail
  ((with_reducible refine (text_nil _ _).mono ?_); rintro e w5 ⟨bfg, rfl, _, fg, a5⟩)
  replace nul := nul.keep0 a5
  replace fb := fb.keep0 a5
  replace fd := fd.keep0 a5
  replace ff := ff.keep0 a5
  have g5 := gb_trans g4 a5
  clear a5 g4
  have mk1 := kn_make255 w5
  obtain ⟨S, hS⟩ : ∃ S : ByteArray, S = ⟨l255.toArray⟩ := ⟨_, rfl⟩
  have cv := conv_bs _ _ _ (kn_bs255 w5)
  rw [← hS] at cv
  have HS := Lib.hid hS
  have s1 : S.size ≤ 255 := by rw [(kn_text S _ hS rfl).1]; omega
  have s2 : 255 ≤ S.size := by rw [(kn_text S _ hS rfl).1]; omega
  clear hS
  go_wp2_with fail
  obtain ⟨w6, hw⟩ : ∃ w0 : World, w0 = w5.alloc (.cells z255 5) := ⟨_, rfl⟩
  have a6 : w5.grownBy w6 none := by rw [hw]; exact gb_alloc _ _ _
  rw [← hw]
  clear hw mk1 cv
  replace nul := nul.keep0 a6
  replace fb := fb.keep0 a6
  replace fd := fd.keep0 a6
  replace ff := ff.keep0 a6
  replace fg := fg.keep0 a6
  have g6 := gb_trans g5 a6
  clear a6 g5
  obtain ⟨X, hX⟩ : ∃ X : ByteArray, X = (⟨#[255]⟩ : ByteArray) ++ S ++ (⟨#[122]⟩ : ByteArray) := ⟨_, rfl⟩
  rw [← hX]
  have HX := Lib.hid (kn_text S X HS.out hX)
  have x1 : X.size ≤ 257 := by rw [HX.out.2.1]; omega
  have x2 : 257 ≤ X.size := by rw [HX.out.2.1]; omega
  clear hX
  ((with_reducible refine (new_any _ _).mono ?_); rintro e w7 ⟨rfl, hw⟩)
  have rt : Rd w7 w6.heap.size X 0 := by rw [hw]; exact Blk.mk _ _ _
  have a7 : w6.grownBy w7 none := by rw [hw]; exact gb_alloc _ _ _
  clear hw
  have lnul := nul.lt
  have lfb := fb.lt
  have lfd := fd.lt
  have lff := ff.lt
  have lfg := fg.lt
  have lw := g6.size
  replace nul := nul.keep0 a7
  replace fb := fb.keep0 a7
  replace fd := fd.keep0 a7
  replace ff := ff.keep0 a7
  replace fg := fg.keep0 a7
  have g7 := gb_trans g6 a7
  clear a7 g6
  go_wp2_with fail
  ((with_reducible refine (new_any _ _).mono ?_); rintro e w8 ⟨rfl, hw⟩)
  have ro : Rd w8 w7.heap.size ⟨#[0]⟩ 0 := by rw [hw]; exact Blk.mk _ _ _
  have a8 : w7.grownBy w8 none := by rw [hw]; exact gb_alloc _ _ _
  clear hw
  have lrt := rt.lt
  replace nul := nul.keep0 a8
  replace fb := fb.keep0 a8
  replace fd := fd.keep0 a8
  replace ff := ff.keep0 a8
  replace fg := fg.keep0 a8
  replace rt := rt.keep0 a8
  have g8 := gb_trans g7 a8
  clear a8 g7
  go_wp2_with fail
  have ht := text_ok w6.heap.size X 0 255 w8 rt (by decide) (by omega) (by rw [HX.out.2.2.1]; decide) (by rw [HX.out.2.2.1]; omega)
  rw [HX.out.2.2.1, show 0 + 1 + 255 = 256 from rfl, show 0 + 1 = 1 from rfl, HX.out.2.2.2] at ht
  ((with_reducible refine ht.mono ?_); rintro e w9 ⟨rfl, rt2, a9⟩)
  clear ht
  replace nul := nul.keep a9 (ne_some (by omega))
  replace fb := fb.keep a9 (ne_some (by omega))
  replace fd := fd.keep a9 (ne_some (by omega))
  replace ff := ff.keep a9 (ne_some (by omega))
  replace fg := fg.keep a9 (ne_some (by omega))
  replace ro := ro.keep a9 (ne_some (by omega))
  have g9 := gb_step g8 a9 (by omega)
  clear a9 g8
  clear rt
  go_wp2_with fail
  have lro := ro.lt
  ((with_reducible refine (text_neg w7.heap.size ⟨#[0]⟩ 0 (-1) _ ro (by decide)).mono ?_); rintro e w10 ⟨bk, rfl, lk, fk, a10⟩)
  replace nul := nul.keep0 a10
  replace fb := fb.keep0 a10
  replace fd := fd.keep0 a10
  replace ff := ff.keep0 a10
  replace fg := fg.keep0 a10
  replace ro := ro.keep0 a10
  replace rt2 := rt2.keep0 a10
  have g10 := gb_trans g9 a10
  clear a10 g9
  go_wp2_with fail
  have ht : Calls Tryd.prog 12 #[.pointer (some ⟨w7.heap.size, 0, none⟩), .int .i64 0] w10 fun e w' => e = .returned (.tuple #[.string ⟨#[]⟩, .nilIface]) ∧ Rd w' w7.heap.size ⟨#[0]⟩ 1 ∧ w10.grownBy w' (some w7.heap.size) := text_ok w7.heap.size ⟨#[0]⟩ 0 0 w10 ro (by decide) (by decide) (by decide) (by decide)
  ((with_reducible refine ht.mono ?_); rintro e w11 ⟨rfl, ro2, a11⟩)
  clear ht
  replace nul := nul.keep a11 (ne_some (by omega))
  replace fb := fb.keep a11 (ne_some (by omega))
  replace fd := fd.keep a11 (ne_some (by omega))
  replace ff := ff.keep a11 (ne_some (by omega))
  replace fg := fg.keep a11 (ne_some (by omega))
  replace rt2 := rt2.keep a11 (ne_some (by omega))
  replace fk := fk.keep a11 (ne_some (by omega))
  have g11 := gb_step g10 a11 (by omega)
  clear a11 g10
  clear ro
  go_wp2_with fail
  ((with_reducible refine (text_end w7.heap.size ⟨#[0]⟩ 1 9 _ ro2 (by decide) (by decide) (by decide) (by decide)).mono ?_); rintro e w12 ⟨bp, rfl, _, fp, a12⟩)
  replace nul := nul.keep0 a12
  replace fb := fb.keep0 a12
  replace fd := fd.keep0 a12
  replace ff := ff.keep0 a12
  replace fg := fg.keep0 a12
  replace rt2 := rt2.keep0 a12
  replace fk := fk.keep0 a12
  replace ro2 := ro2.keep0 a12
  have g12 := gb_trans g11 a12
  clear a12 g11
  have mk2 := kn_make8 w12
  go_wp2_with fail
  obtain ⟨w13, hw⟩ : ∃ w0 : World, w0 = w12.alloc (.cells #[.int .u8 0, .int .u8 0, .int .u8 0, .int .u8 0, .int .u8 0, .int .u8 0, .int .u8 0, .int .u8 0] 5) := ⟨_, rfl⟩
  have a13 : w12.grownBy w13 none := by rw [hw]; exact gb_alloc _ _ _
  have room := kn_bs1 w12
  rw [← hw] at room ⊢
  clear hw mk2
  clear lnul lfb lfd lff lfg lrt lro lk lw
  replace nul := nul.keep0 a13
  replace fb := fb.keep0 a13
  replace fd := fd.keep0 a13
  replace ff := ff.keep0 a13
  replace fg := fg.keep0 a13
  replace rt2 := rt2.keep0 a13
  replace fk := fk.keep0 a13
  replace ro2 := ro2.keep0 a13
  replace fp := fp.keep0 a13
  have g13 := gb_trans g12 a13
  clear a13 g12
  have hp : Calls Tryd.prog 25 #[_, .int .u8 1] w13 (Laid w13 [0, 1]) := kn_p8 _ w13 room 1 (by decide)
  ((with_reducible refine (hp).mono ?_); rintro e w14 ⟨vx, rfl, ox, a14⟩)
  have bsx := Bs.of_owns ox
  clear hp ox
  replace nul := nul.keep0 a14
  replace fb := fb.keep0 a14
  replace fd := fd.keep0 a14
  replace ff := ff.keep0 a14
  replace fg := fg.keep0 a14
  replace rt2 := rt2.keep0 a14
  replace fk := fk.keep0 a14
  replace ro2 := ro2.keep0 a14
  replace fp := fp.keep0 a14
  replace room := room.keep0 a14
  have g14 := gb_trans g13 a14
  clear a14 g13
  go_wp2_with fail
  have hp : Calls Tryd.prog 25 #[_, .int .u8 2] w14 (Laid w14 [0, 2]) := kn_p8 _ w14 room 2 (by decide)
  ((with_reducible refine (hp).mono ?_); rintro e w15 ⟨vy, rfl, oy, a15⟩)
  have bsy := Bs.of_owns oy
  clear hp oy
  replace nul := nul.keep0 a15
  replace fb := fb.keep0 a15
  replace fd := fd.keep0 a15
  replace ff := ff.keep0 a15
  replace fg := fg.keep0 a15
  replace rt2 := rt2.keep0 a15
  replace fk := fk.keep0 a15
  replace ro2 := ro2.keep0 a15
  replace fp := fp.keep0 a15
  replace room := room.keep0 a15
  replace bsx := bsx.keep0 a15
  have g15 := gb_trans g14 a15
  clear a15 g14
  go_wp2_with fail
  simp only [List.append]
  refine wp_region_any (by kernel_rfl) ?_
  obtain ⟨wd, hwd⟩ : ∃ wd : World, wd = { w15 with drawn := w15.drawn + 1 } := ⟨_, rfl⟩
  have an : w15.grownBy wd none := by rw [hwd]; exact ⟨rfl, rfl, rfl, Nat.le_refl _, fun _ _ _ => rfl⟩
  rw [← hwd]
  clear hwd
  have gk := gb_trans g15 an
  have hdk := hd.keep0 gk
  replace nul := nul.keep0 an
  replace fb := fb.keep0 an
  replace fd := fd.keep0 an
  replace ff := ff.keep0 an
  replace fg := fg.keep0 an
  replace rt2 := rt2.keep0 an
  replace fk := fk.keep0 an
  replace fp := fp.keep0 an
  replace bsx := bsx.keep0 an
  replace bsy := bsy.keep0 an
  refine region_kf _ wd 84 108 0 (ksK S w1.heap.size w2.heap.size bff bfg bk bp w6.heap.size vx vy) rfl (by simp) (by decide) (by kernel_rfl) ?hstep ?hend
  case hstep =>
    refine each_cons 0 1 rfl ?_ ?_
    · rintro u a hdep hout hI K hK
      exact op_move rfl rfl (hK _ _ rfl (GR.refl _) hI)
    refine each_cons 1 2 rfl ?_ ?_
    · rintro u a hdep hout hI K hK
      exact op_calls #[] _ rfl (by simp) (enters_of Tryd.func18 (by kernel_rfl) rfl) (works_any u (hdk.keep0 hI)) (fun e u2 h => ⟨_, h.1, hK _ _ rfl (GR.of_grown h.2) (gb_trans hI h.2)⟩)
    refine each_cons 2 3 rfl ?_ ?_
    · rintro u a hdep hout hI K hK
      exact op_pick rfl (hdep ⟨0, .data⟩ (by simp) rfl) (hdep ⟨1, .data⟩ (by simp) rfl) (hK _ _ rfl (GR.refl _) hI)
    refine each_cons 3 4 rfl ?_ ?_
    · rintro u a hdep hout hI K hK
      exact op_move rfl (hdep ⟨2, .data⟩ (by simp) rfl) (hK _ _ rfl (GR.refl _) hI)
    refine each_cons 4 5 rfl ?_ ?_
    · rintro u a hdep hout hI K hK
      exact op_move rfl (hout 3 ⟨by decide, Or.inl (by decide)⟩) (hK _ _ rfl (GR.refl _) hI)
    refine each_cons 5 6 rfl ?_ ?_
    · rintro u a hdep hout hI K hK
      exact op_bin rfl (hdep ⟨4, .data⟩ (by simp) rfl) rfl (gd_int _ _ _ _ _ _ _ _ _) (eq_u8 _) (hK _ _ rfl (GR.refl _) hI)
    refine each_cons 6 7 rfl ?_ ?_
    · rintro u a hdep hout hI K hK
      exact op_pick rfl (hdep ⟨3, .data⟩ (by simp) rfl) (hdep ⟨5, .data⟩ (by simp) rfl) (hK _ _ rfl (GR.refl _) hI)
    refine each_cons 7 8 rfl ?_ ?_
    · rintro u a hdep hout hI K hK
      exact op_move rfl (hdep ⟨6, .data⟩ (by simp) rfl) (hK _ _ rfl (GR.refl _) hI)
    refine each_cons 8 9 rfl ?_ ?_
    · rintro u a hdep hout hI K hK
      exact op_move rfl (hout 4 ⟨by decide, Or.inl (by decide)⟩) (hK _ _ rfl (GR.refl _) hI)
    refine each_cons 9 10 rfl ?_ ?_
    · rintro u a hdep hout hI K hK
      exact op_load rfl (hout 2 ⟨by decide, Or.inl (by decide)⟩) (nul.keep0 hI) (hK _ _ rfl (GR.refl _) hI)
    refine each_cons 10 11 rfl ?_ ?_
    · rintro u a hdep hout hI K hK
      have e1 : a.tmps.getD 92 undef = .iface 77 (.pointer (some ⟨w1.heap.size, 0, none⟩)) := (hdep ⟨8, .data⟩ (by simp) rfl)
      have e2 : a.tmps.getD 93 undef = .agg #[.int .i64 1, .int .i64 0] := (hdep ⟨9, .data⟩ (by simp) rfl)
      exact op_calls #[.iface 77 (.pointer (some ⟨w1.heap.size, 0, none⟩)), .agg #[.int .i64 1, .int .i64 0]] _ rfl (by simp only [List.map_toArray, List.map_cons, List.map_nil, Act.eval, e1, e2]) (enters_of Tryd.func11 (by kernel_rfl) rfl) (law_is_fault w1.heap.size 1 0 u (hdk.keep0 hI) (fb.keep0 hI) rfl) (fun e u2 h => ⟨_, h.1, hK _ _ rfl (GR.of_grown h.2) (gb_trans hI h.2)⟩)
    refine each_cons 11 12 rfl ?_ ?_
    · rintro u a hdep hout hI K hK
      exact op_pick rfl (hdep ⟨7, .data⟩ (by simp) rfl) (hdep ⟨10, .data⟩ (by simp) rfl) (hK _ _ rfl (GR.refl _) hI)
    refine each_cons 12 13 rfl ?_ ?_
    · rintro u a hdep hout hI K hK
      exact op_move rfl (hdep ⟨11, .data⟩ (by simp) rfl) (hK _ _ rfl (GR.refl _) hI)
    refine each_cons 13 14 rfl ?_ ?_
    · rintro u a hdep hout hI K hK
      exact op_move rfl (hout 5 ⟨by decide, Or.inl (by decide)⟩) (hK _ _ rfl (GR.refl _) hI)
    refine each_cons 14 15 rfl ?_ ?_
    · rintro u a hdep hout hI K hK
      exact op_bin rfl (hdep ⟨13, .data⟩ (by simp) rfl) rfl (gd_int _ _ _ _ _ _ _ _ _) (eq_u64 _) (hK _ _ rfl (GR.refl _) hI)
    refine each_cons 15 16 rfl ?_ ?_
    · rintro u a hdep hout hI K hK
      exact op_pick rfl (hdep ⟨12, .data⟩ (by simp) rfl) (hdep ⟨14, .data⟩ (by simp) rfl) (hK _ _ rfl (GR.refl _) hI)
    refine each_cons 16 17 rfl ?_ ?_
    · rintro u a hdep hout hI K hK
      exact op_move rfl (hdep ⟨15, .data⟩ (by simp) rfl) (hK _ _ rfl (GR.refl _) hI)
    refine each_cons 17 18 rfl ?_ ?_
    · rintro u a hdep hout hI K hK
      exact op_move rfl (hout 6 ⟨by decide, Or.inl (by decide)⟩) (hK _ _ rfl (GR.refl _) hI)
    refine each_cons 18 19 rfl ?_ ?_
    · rintro u a hdep hout hI K hK
      exact op_load rfl (hout 2 ⟨by decide, Or.inl (by decide)⟩) (nul.keep0 hI) (hK _ _ rfl (GR.refl _) hI)
    refine each_cons 19 20 rfl ?_ ?_
    · rintro u a hdep hout hI K hK
      have e1 : a.tmps.getD 101 undef = .iface 77 (.pointer (some ⟨w2.heap.size, 0, none⟩)) := (hdep ⟨17, .data⟩ (by simp) rfl)
      have e2 : a.tmps.getD 102 undef = .agg #[.int .i64 1, .int .i64 0] := (hdep ⟨18, .data⟩ (by simp) rfl)
      exact op_calls #[.iface 77 (.pointer (some ⟨w2.heap.size, 0, none⟩)), .agg #[.int .i64 1, .int .i64 0]] _ rfl (by simp only [List.map_toArray, List.map_cons, List.map_nil, Act.eval, e1, e2]) (enters_of Tryd.func11 (by kernel_rfl) rfl) (law_is_fault w2.heap.size 1 0 u (hdk.keep0 hI) (fd.keep0 hI) rfl) (fun e u2 h => ⟨_, h.1, hK _ _ rfl (GR.of_grown h.2) (gb_trans hI h.2)⟩)
    refine each_cons 20 21 rfl ?_ ?_
    · rintro u a hdep hout hI K hK
      exact op_pick rfl (hdep ⟨16, .data⟩ (by simp) rfl) (hdep ⟨19, .data⟩ (by simp) rfl) (hK _ _ rfl (GR.refl _) hI)
    refine each_cons 21 22 rfl ?_ ?_
    · rintro u a hdep hout hI K hK
      exact op_move rfl (hdep ⟨20, .data⟩ (by simp) rfl) (hK _ _ rfl (GR.refl _) hI)
    refine each_cons 22 23 rfl ?_ ?_
    · rintro u a hdep hout hI K hK
      exact op_move rfl (hout 7 ⟨by decide, Or.inl (by decide)⟩) (hK _ _ rfl (GR.refl _) hI)
    refine each_cons 23 24 rfl ?_ ?_
    · rintro u a hdep hout hI K hK
      exact op_bin rfl (hdep ⟨22, .data⟩ (by simp) rfl) rfl (gd_str _ _ _ _ _ _ _) (eq_str _ _) (hK _ _ rfl (GR.refl _) hI)
    refine each_cons 24 25 rfl ?_ ?_
    · rintro u a hdep hout hI K hK
      exact op_pick rfl (hdep ⟨21, .data⟩ (by simp) rfl) (hdep ⟨23, .data⟩ (by simp) rfl) (hK _ _ rfl (GR.refl _) hI)
    refine each_cons 25 26 rfl ?_ ?_
    · rintro u a hdep hout hI K hK
      exact op_move rfl (hdep ⟨24, .data⟩ (by simp) rfl) (hK _ _ rfl (GR.refl _) hI)
    refine each_cons 26 27 rfl ?_ ?_
    · rintro u a hdep hout hI K hK
      exact op_move rfl (hout 8 ⟨by decide, Or.inl (by decide)⟩) (hK _ _ rfl (GR.refl _) hI)
    refine each_cons 27 28 rfl ?_ ?_
    · rintro u a hdep hout hI K hK
      exact op_load rfl (hout 2 ⟨by decide, Or.inl (by decide)⟩) (nul.keep0 hI) (hK _ _ rfl (GR.refl _) hI)
    refine each_cons 28 29 rfl ?_ ?_
    · rintro u a hdep hout hI K hK
      have e1 : a.tmps.getD 110 undef = .iface 77 (.pointer (some ⟨bff, 0, none⟩)) := (hdep ⟨26, .data⟩ (by simp) rfl)
      have e2 : a.tmps.getD 111 undef = .agg #[.int .i64 1, .int .i64 0] := (hdep ⟨27, .data⟩ (by simp) rfl)
      exact op_calls #[.iface 77 (.pointer (some ⟨bff, 0, none⟩)), .agg #[.int .i64 1, .int .i64 0]] _ rfl (by simp only [List.map_toArray, List.map_cons, List.map_nil, Act.eval, e1, e2]) (enters_of Tryd.func11 (by kernel_rfl) rfl) (law_is_fault bff 1 0 u (hdk.keep0 hI) (ff.keep0 hI) rfl) (fun e u2 h => ⟨_, h.1, hK _ _ rfl (GR.of_grown h.2) (gb_trans hI h.2)⟩)
    refine each_cons 29 30 rfl ?_ ?_
    · rintro u a hdep hout hI K hK
      exact op_pick rfl (hdep ⟨25, .data⟩ (by simp) rfl) (hdep ⟨28, .data⟩ (by simp) rfl) (hK _ _ rfl (GR.refl _) hI)
    refine each_cons 30 31 rfl ?_ ?_
    · rintro u a hdep hout hI K hK
      exact op_move rfl (hdep ⟨29, .data⟩ (by simp) rfl) (hK _ _ rfl (GR.refl _) hI)
    refine each_cons 31 32 rfl ?_ ?_
    · rintro u a hdep hout hI K hK
      exact op_move rfl (hout 10 ⟨by decide, Or.inl (by decide)⟩) (hK _ _ rfl (GR.refl _) hI)
    refine each_cons 32 33 rfl ?_ ?_
    · rintro u a hdep hout hI K hK
      exact op_load rfl (hout 2 ⟨by decide, Or.inl (by decide)⟩) (nul.keep0 hI) (hK _ _ rfl (GR.refl _) hI)
    refine each_cons 33 34 rfl ?_ ?_
    · rintro u a hdep hout hI K hK
      have e1 : a.tmps.getD 115 undef = .iface 77 (.pointer (some ⟨bfg, 0, none⟩)) := (hdep ⟨31, .data⟩ (by simp) rfl)
      have e2 : a.tmps.getD 116 undef = .agg #[.int .i64 1, .int .i64 0] := (hdep ⟨32, .data⟩ (by simp) rfl)
      exact op_calls #[.iface 77 (.pointer (some ⟨bfg, 0, none⟩)), .agg #[.int .i64 1, .int .i64 0]] _ rfl (by simp only [List.map_toArray, List.map_cons, List.map_nil, Act.eval, e1, e2]) (enters_of Tryd.func11 (by kernel_rfl) rfl) (law_is_fault bfg 1 0 u (hdk.keep0 hI) (fg.keep0 hI) rfl) (fun e u2 h => ⟨_, h.1, hK _ _ rfl (GR.of_grown h.2) (gb_trans hI h.2)⟩)
    refine each_cons 34 35 rfl ?_ ?_
    · rintro u a hdep hout hI K hK
      exact op_pick rfl (hdep ⟨30, .data⟩ (by simp) rfl) (hdep ⟨33, .data⟩ (by simp) rfl) (hK _ _ rfl (GR.refl _) hI)
    refine each_cons 35 36 rfl ?_ ?_
    · rintro u a hdep hout hI K hK
      exact op_move rfl (hdep ⟨34, .data⟩ (by simp) rfl) (hK _ _ rfl (GR.refl _) hI)
    refine each_cons 36 37 rfl ?_ ?_
    · rintro u a hdep hout hI K hK
      exact op_move rfl (hout 1 ⟨by decide, Or.inl (by decide)⟩) (hK _ _ rfl (GR.refl _) hI)
    refine each_cons 37 38 rfl ?_ ?_
    · rintro u a hdep hout hI K hK
      have e1 : a.tmps.getD 120 undef = .pointer none := (hdep ⟨36, .data⟩ (by simp) rfl)
      exact op_calls #[.pointer none] _ rfl (by simp only [List.map_toArray, List.map_cons, List.map_nil, Act.eval, e1]) (enters_of Tryd.func14 (by kernel_rfl) rfl) (place_nil u) (fun e u2 h => ⟨_, h.1, by obtain ⟨_, rfl⟩ := h; exact hK _ _ rfl (GR.refl _) hI⟩)
    refine each_cons 38 39 rfl ?_ ?_
    · rintro u a hdep hout hI K hK
      exact op_bin rfl (hdep ⟨37, .data⟩ (by simp) rfl) rfl (gd_int _ _ _ _ _ _ _ _ _) (eq_int _) (hK _ _ rfl (GR.refl _) hI)
    refine each_cons 39 40 rfl ?_ ?_
    · rintro u a hdep hout hI K hK
      exact op_pick rfl (hdep ⟨35, .data⟩ (by simp) rfl) (hdep ⟨38, .data⟩ (by simp) rfl) (hK _ _ rfl (GR.refl _) hI)
    refine each_cons 40 41 rfl ?_ ?_
    · rintro u a hdep hout hI K hK
      exact op_move rfl (hdep ⟨39, .data⟩ (by simp) rfl) (hK _ _ rfl (GR.refl _) hI)
    refine each_cons 41 42 rfl ?_ ?_
    · rintro u a hdep hout hI K hK
      exact op_move rfl (hout 1 ⟨by decide, Or.inl (by decide)⟩) (hK _ _ rfl (GR.refl _) hI)
    refine each_cons 42 43 rfl ?_ ?_
    · rintro u a hdep hout hI K hK
      have e1 : a.tmps.getD 125 undef = .pointer none := (hdep ⟨41, .data⟩ (by simp) rfl)
      exact op_calls #[.pointer none] _ rfl (by simp only [List.map_toArray, List.map_cons, List.map_nil, Act.eval, e1]) (enters_of Tryd.func15 (by kernel_rfl) rfl) (left_nil u) (fun e u2 h => ⟨_, h.1, by obtain ⟨_, rfl⟩ := h; exact hK _ _ rfl (GR.refl _) hI⟩)
    refine each_cons 43 44 rfl ?_ ?_
    · rintro u a hdep hout hI K hK
      exact op_bin rfl (hdep ⟨42, .data⟩ (by simp) rfl) rfl (gd_int _ _ _ _ _ _ _ _ _) (eq_int _) (hK _ _ rfl (GR.refl _) hI)
    refine each_cons 44 45 rfl ?_ ?_
    · rintro u a hdep hout hI K hK
      exact op_pick rfl (hdep ⟨40, .data⟩ (by simp) rfl) (hdep ⟨43, .data⟩ (by simp) rfl) (hK _ _ rfl (GR.refl _) hI)
    refine each_cons 45 46 rfl ?_ ?_
    · rintro u a hdep hout hI K hK
      exact op_move rfl (hdep ⟨44, .data⟩ (by simp) rfl) (hK _ _ rfl (GR.refl _) hI)
    refine each_cons 46 47 rfl ?_ ?_
    · rintro u a hdep hout hI K hK
      exact op_move rfl (hout 1 ⟨by decide, Or.inl (by decide)⟩) (hK _ _ rfl (GR.refl _) hI)
    refine each_cons 47 48 rfl ?_ ?_
    · rintro u a hdep hout hI K hK
      have e1 : a.tmps.getD 130 undef = .pointer none := (hdep ⟨46, .data⟩ (by simp) rfl)
      exact op_calls #[.pointer none] _ rfl (by simp only [List.map_toArray, List.map_cons, List.map_nil, Act.eval, e1]) (enters_of Tryd.func16 (by kernel_rfl) rfl) (end_nil u) (fun e u2 h => ⟨_, h.1, hK _ _ ⟨_, rfl, h.2.1⟩ (GR.of_grown h.2.2) (gb_trans hI h.2.2)⟩)
    refine each_cons 48 49 rfl ?_ ?_
    · rintro u a hdep hout hI K hK
      exact op_load rfl (hout 2 ⟨by decide, Or.inl (by decide)⟩) (nul.keep0 hI) (hK _ _ rfl (GR.refl _) hI)
    refine each_cons 49 50 rfl ?_ ?_
    · rintro u a hdep hout hI K hK
      obtain ⟨fb1, e1, ft1⟩ := (hdep ⟨47, .data⟩ (by simp) rfl)
      replace e1 : a.tmps.getD 131 undef = .iface 77 (.pointer (some ⟨fb1, 0, none⟩)) := e1
      have e2 : a.tmps.getD 132 undef = .agg #[.int .i64 1, .int .i64 0] := (hdep ⟨48, .data⟩ (by simp) rfl)
      exact op_calls #[.iface 77 (.pointer (some ⟨fb1, 0, none⟩)), .agg #[.int .i64 1, .int .i64 0]] _ rfl (by simp only [List.map_toArray, List.map_cons, List.map_nil, Act.eval, e1, e2]) (enters_of Tryd.func11 (by kernel_rfl) rfl) (law_is_fault fb1 1 0 u (hdk.keep0 hI) ft1 rfl) (fun e u2 h => ⟨_, h.1, hK _ _ rfl (GR.of_grown h.2) (gb_trans hI h.2)⟩)
    refine each_cons 50 51 rfl ?_ ?_
    · rintro u a hdep hout hI K hK
      exact op_pick rfl (hdep ⟨45, .data⟩ (by simp) rfl) (hdep ⟨49, .data⟩ (by simp) rfl) (hK _ _ rfl (GR.refl _) hI)
    refine each_cons 51 52 rfl ?_ ?_
    · rintro u a hdep hout hI K hK
      exact op_move rfl (hdep ⟨50, .data⟩ (by simp) rfl) (hK _ _ rfl (GR.refl _) hI)
    refine each_cons 52 53 rfl ?_ ?_
    · rintro u a hdep hout hI K hK
      exact op_move rfl (hout 14 ⟨by decide, Or.inl (by decide)⟩) (hK _ _ rfl (GR.refl _) hI)
    refine each_cons 53 54 rfl ?_ ?_
    · rintro u a hdep hout hI K hK
      exact op_move rfl (hout 11 ⟨by decide, Or.inl (by decide)⟩) (hK _ _ rfl (GR.refl _) hI)
    refine each_cons 54 55 rfl ?_ ?_
    · rintro u a hdep hout hI K hK
      exact op_bin rfl (hdep ⟨52, .data⟩ (by simp) rfl) (hdep ⟨53, .data⟩ (by simp) rfl) (gd_str _ _ _ _ _ _ _) (eq_str _ _) (hK _ _ rfl (GR.refl _) hI)
    refine each_cons 55 56 rfl ?_ ?_
    · rintro u a hdep hout hI K hK
      exact op_pick rfl (hdep ⟨51, .data⟩ (by simp) rfl) (hdep ⟨54, .data⟩ (by simp) rfl) (hK _ _ rfl (GR.refl _) hI)
    refine each_cons 56 57 rfl ?_ ?_
    · rintro u a hdep hout hI K hK
      exact op_move rfl (hdep ⟨55, .data⟩ (by simp) rfl) (hK _ _ rfl (GR.refl _) hI)
    refine each_cons 57 58 rfl ?_ ?_
    · rintro u a hdep hout hI K hK
      exact op_move rfl (hout 15 ⟨by decide, Or.inl (by decide)⟩) (hK _ _ rfl (GR.refl _) hI)
    refine each_cons 58 59 rfl ?_ ?_
    · rintro u a hdep hout hI K hK
      exact op_bin rfl (hdep ⟨57, .data⟩ (by simp) rfl) rfl (gd_nil _ _) (eq_nil _) (hK _ _ rfl (GR.refl _) hI)
    refine each_cons 59 60 rfl ?_ ?_
    · rintro u a hdep hout hI K hK
      exact op_pick rfl (hdep ⟨56, .data⟩ (by simp) rfl) (hdep ⟨58, .data⟩ (by simp) rfl) (hK _ _ rfl (GR.refl _) hI)
    refine each_cons 60 61 rfl ?_ ?_
    · rintro u a hdep hout hI K hK
      exact op_move rfl (hdep ⟨59, .data⟩ (by simp) rfl) (hK _ _ rfl (GR.refl _) hI)
    refine each_cons 61 62 rfl ?_ ?_
    · rintro u a hdep hout hI K hK
      exact op_move rfl (hout 12 ⟨by decide, Or.inl (by decide)⟩) (hK _ _ rfl (GR.refl _) hI)
    refine each_cons 62 63 rfl ?_ ?_
    · rintro u a hdep hout hI K hK
      have e1 : a.tmps.getD 145 undef = .pointer (some ⟨w6.heap.size, 0, none⟩) := (hdep ⟨61, .data⟩ (by simp) rfl)
      exact op_calls #[.pointer (some ⟨w6.heap.size, 0, none⟩)] _ rfl (by simp only [List.map_toArray, List.map_cons, List.map_nil, Act.eval, e1]) (enters_of Tryd.func16 (by kernel_rfl) rfl) (end_left w6.heap.size X 256 u (rt2.keep0 hI) (by omega) (by omega)) (fun e u2 h => ⟨_, h.1, hK _ _ ⟨_, rfl, h.2.1⟩ (GR.of_grown h.2.2) (gb_trans hI h.2.2)⟩)
    refine each_cons 63 64 rfl ?_ ?_
    · rintro u a hdep hout hI K hK
      exact op_build rfl [(0, .int .i64 4), (1, .int .i64 256)] (by simp only [List.map_toArray, List.map_cons, List.map_nil, Act.eval]) #[.int .i64 4, .int .i64 256] (by kernel_rfl) (hK _ _ rfl (GR.refl _) hI)
    refine each_cons 64 65 rfl ?_ ?_
    · rintro u a hdep hout hI K hK
      obtain ⟨fb1, e1, ft1⟩ := (hdep ⟨62, .data⟩ (by simp) rfl)
      replace e1 : a.tmps.getD 146 undef = .iface 77 (.pointer (some ⟨fb1, 0, none⟩)) := e1
      have e2 : a.tmps.getD 147 undef = .agg #[.int .i64 4, .int .i64 256] := (hdep ⟨63, .data⟩ (by simp) rfl)
      exact op_calls #[.iface 77 (.pointer (some ⟨fb1, 0, none⟩)), .agg #[.int .i64 4, .int .i64 256]] _ rfl (by simp only [List.map_toArray, List.map_cons, List.map_nil, Act.eval, e1, e2]) (enters_of Tryd.func11 (by kernel_rfl) rfl) (law_is_fault fb1 4 256 u (hdk.keep0 hI) ft1 rfl) (fun e u2 h => ⟨_, h.1, hK _ _ rfl (GR.of_grown h.2) (gb_trans hI h.2)⟩)
    refine each_cons 65 66 rfl ?_ ?_
    · rintro u a hdep hout hI K hK
      exact op_pick rfl (hdep ⟨60, .data⟩ (by simp) rfl) (hdep ⟨64, .data⟩ (by simp) rfl) (hK _ _ rfl (GR.refl _) hI)
    refine each_cons 66 67 rfl ?_ ?_
    · rintro u a hdep hout hI K hK
      exact op_move rfl (hdep ⟨65, .data⟩ (by simp) rfl) (hK _ _ rfl (GR.refl _) hI)
    refine each_cons 67 68 rfl ?_ ?_
    · rintro u a hdep hout hI K hK
      exact op_move rfl (hout 17 ⟨by decide, Or.inl (by decide)⟩) (hK _ _ rfl (GR.refl _) hI)
    refine each_cons 68 69 rfl ?_ ?_
    · rintro u a hdep hout hI K hK
      exact op_build rfl [(0, .int .i64 2)] (by simp only [List.map_toArray, List.map_cons, List.map_nil, Act.eval]) #[.int .i64 2, .int .i64 0] (by kernel_rfl) (hK _ _ rfl (GR.refl _) hI)
    refine each_cons 69 70 rfl ?_ ?_
    · rintro u a hdep hout hI K hK
      have e1 : a.tmps.getD 151 undef = .iface 77 (.pointer (some ⟨bk, 0, none⟩)) := (hdep ⟨67, .data⟩ (by simp) rfl)
      have e2 : a.tmps.getD 152 undef = .agg #[.int .i64 2, .int .i64 0] := (hdep ⟨68, .data⟩ (by simp) rfl)
      exact op_calls #[.iface 77 (.pointer (some ⟨bk, 0, none⟩)), .agg #[.int .i64 2, .int .i64 0]] _ rfl (by simp only [List.map_toArray, List.map_cons, List.map_nil, Act.eval, e1, e2]) (enters_of Tryd.func11 (by kernel_rfl) rfl) (law_is_fault bk 2 0 u (hdk.keep0 hI) (fk.keep0 hI) rfl) (fun e u2 h => ⟨_, h.1, hK _ _ rfl (GR.of_grown h.2) (gb_trans hI h.2)⟩)
    refine each_cons 70 71 rfl ?_ ?_
    · rintro u a hdep hout hI K hK
      exact op_pick rfl (hdep ⟨66, .data⟩ (by simp) rfl) (hdep ⟨69, .data⟩ (by simp) rfl) (hK _ _ rfl (GR.refl _) hI)
    refine each_cons 71 72 rfl ?_ ?_
    · rintro u a hdep hout hI K hK
      exact op_move rfl (hdep ⟨70, .data⟩ (by simp) rfl) (hK _ _ rfl (GR.refl _) hI)
    refine each_cons 72 73 rfl ?_ ?_
    · rintro u a hdep hout hI K hK
      exact op_move rfl (hout 18 ⟨by decide, Or.inl (by decide)⟩) (hK _ _ rfl (GR.refl _) hI)
    refine each_cons 73 74 rfl ?_ ?_
    · rintro u a hdep hout hI K hK
      exact op_bin rfl (hdep ⟨72, .data⟩ (by simp) rfl) rfl (gd_str _ _ _ _ _ _ _) (eq_str _ _) (hK _ _ rfl (GR.refl _) hI)
    refine each_cons 74 75 rfl ?_ ?_
    · rintro u a hdep hout hI K hK
      exact op_pick rfl (hdep ⟨71, .data⟩ (by simp) rfl) (hdep ⟨73, .data⟩ (by simp) rfl) (hK _ _ rfl (GR.refl _) hI)
    refine each_cons 75 76 rfl ?_ ?_
    · rintro u a hdep hout hI K hK
      exact op_move rfl (hdep ⟨74, .data⟩ (by simp) rfl) (hK _ _ rfl (GR.refl _) hI)
    refine each_cons 76 77 rfl ?_ ?_
    · rintro u a hdep hout hI K hK
      exact op_move rfl (hout 19 ⟨by decide, Or.inl (by decide)⟩) (hK _ _ rfl (GR.refl _) hI)
    refine each_cons 77 78 rfl ?_ ?_
    · rintro u a hdep hout hI K hK
      exact op_bin rfl (hdep ⟨76, .data⟩ (by simp) rfl) rfl (gd_nil _ _) (eq_nil _) (hK _ _ rfl (GR.refl _) hI)
    refine each_cons 78 79 rfl ?_ ?_
    · rintro u a hdep hout hI K hK
      exact op_pick rfl (hdep ⟨75, .data⟩ (by simp) rfl) (hdep ⟨77, .data⟩ (by simp) rfl) (hK _ _ rfl (GR.refl _) hI)
    refine each_cons 79 80 rfl ?_ ?_
    · rintro u a hdep hout hI K hK
      exact op_move rfl (hdep ⟨78, .data⟩ (by simp) rfl) (hK _ _ rfl (GR.refl _) hI)
    refine each_cons 80 81 rfl ?_ ?_
    · rintro u a hdep hout hI K hK
      exact op_move rfl (hout 21 ⟨by decide, Or.inl (by decide)⟩) (hK _ _ rfl (GR.refl _) hI)
    refine each_cons 81 82 rfl ?_ ?_
    · rintro u a hdep hout hI K hK
      exact op_build rfl [(0, .int .i64 3), (1, .int .i64 1)] (by simp only [List.map_toArray, List.map_cons, List.map_nil, Act.eval]) #[.int .i64 3, .int .i64 1] (by kernel_rfl) (hK _ _ rfl (GR.refl _) hI)
    refine each_cons 82 83 rfl ?_ ?_
    · rintro u a hdep hout hI K hK
      have e1 : a.tmps.getD 164 undef = .iface 77 (.pointer (some ⟨bp, 0, none⟩)) := (hdep ⟨80, .data⟩ (by simp) rfl)
      have e2 : a.tmps.getD 165 undef = .agg #[.int .i64 3, .int .i64 1] := (hdep ⟨81, .data⟩ (by simp) rfl)
      exact op_calls #[.iface 77 (.pointer (some ⟨bp, 0, none⟩)), .agg #[.int .i64 3, .int .i64 1]] _ rfl (by simp only [List.map_toArray, List.map_cons, List.map_nil, Act.eval, e1, e2]) (enters_of Tryd.func11 (by kernel_rfl) rfl) (law_is_fault bp 3 1 u (hdk.keep0 hI) (fp.keep0 hI) rfl) (fun e u2 h => ⟨_, h.1, hK _ _ rfl (GR.of_grown h.2) (gb_trans hI h.2)⟩)
    refine each_cons 83 84 rfl ?_ ?_
    · rintro u a hdep hout hI K hK
      exact op_pick rfl (hdep ⟨79, .data⟩ (by simp) rfl) (hdep ⟨82, .data⟩ (by simp) rfl) (hK _ _ rfl (GR.refl _) hI)
    refine each_cons 84 85 rfl ?_ ?_
    · rintro u a hdep hout hI K hK
      exact op_move rfl (hdep ⟨83, .data⟩ (by simp) rfl) (hK _ _ rfl (GR.refl _) hI)
    refine each_cons 85 86 rfl ?_ ?_
    · rintro u a hdep hout hI K hK
      exact op_buildSlice rfl Tryd.underlying49 [(0, .int .u8 113)] (by simp only [List.map_toArray, List.map_cons, List.map_nil, Act.eval]) #[.int .u8 113] (by kernel_rfl) (hK _ _ ⟨_, rfl, hI.size, Or.inl (Blk.mk _ _ _)⟩ (GR.of_grown (gb_alloc _ _ _)) (gb_trans hI (gb_alloc _ _ _)))
    refine each_cons 86 87 rfl ?_ ?_
    · rintro u a hdep hout hI K hK
      have hl : Lit1 wd.heap.size u (a.tmps.getD 169 undef) := (hdep ⟨85, .data⟩ (by simp) rfl)
      obtain ⟨u2, hr, hg, hI2⟩ := lit_mark rfl hl hI
      exact op_conv rfl rfl hr (hK _ _ (hg.lit hl) hg hI2)
    refine each_cons 87 88 rfl ?_ ?_
    · rintro u a hdep hout hI K hK
      exact op_move rfl (hout 11 ⟨by decide, Or.inl (by decide)⟩) (hK _ _ rfl (GR.refl _) hI)
    refine each_cons 88 89 rfl ?_ ?_
    · rintro u a hdep hout hI K hK
      exact op_bin rfl (hdep ⟨87, .data⟩ (by simp) rfl) rfl (gd_str _ _ _ _ _ _ _) (kn_add S s1 _) (hK _ _ rfl (GR.refl _) hI)
    refine each_cons 89 90 rfl ?_ ?_
    · rintro u a hdep hout hI K hK
      have hl : Lit1 wd.heap.size u (a.tmps.getD 170 undef) := (hdep ⟨86, .data⟩ (by simp) rfl)
      have e2 : a.tmps.getD 172 undef = .string (S ++ ⟨#[120]⟩) := (hdep ⟨88, .data⟩ (by simp) rfl)
      exact op_calls #[a.tmps.getD 170 undef, .string (S ++ ⟨#[120]⟩)] _ rfl (by simp only [List.map_toArray, List.map_cons, List.map_nil, Act.eval, e2]) (enters_of Tryd.func21 (by kernel_rfl) rfl) (ptext_long _ [113] _ u (lit_bs hl) (kn_size S s2) (by decide)) (fun e u2 h => (by obtain ⟨vq, rfl, oq, hg⟩ := h; exact ⟨_, rfl, hK _ _ (Bs.of_owns oq) (GR.of_grown hg) (gb_trans hI hg)⟩))
    refine each_cons 90 91 rfl ?_ ?_
    · rintro u a hdep hout hI K hK
      have hl : Bs u (a.tmps.getD 173 undef) [113] := (hdep ⟨89, .data⟩ (by simp) rfl)
      exact op_conv rfl rfl (conv_bs _ _ _ hl) (hK _ _ rfl (GR.refl _) hI)
    refine each_cons 91 92 rfl ?_ ?_
    · rintro u a hdep hout hI K hK
      exact op_bin rfl (hdep ⟨90, .data⟩ (by simp) rfl) rfl (gd_str _ _ _ _ _ _ _) (eq_str _ _) (hK _ _ rfl (GR.refl _) hI)
    refine each_cons 92 93 rfl ?_ ?_
    · rintro u a hdep hout hI K hK
      exact op_pick rfl (hdep ⟨84, .data⟩ (by simp) rfl) (hdep ⟨91, .data⟩ (by simp) rfl) (hK _ _ rfl (GR.refl _) hI)
    refine each_cons 93 94 rfl ?_ ?_
    · rintro u a hdep hout hI K hK
      exact op_move rfl (hdep ⟨92, .data⟩ (by simp) rfl) (hK _ _ rfl (GR.refl _) hI)
    refine each_cons 94 95 rfl ?_ ?_
    · rintro u a hdep hout hI K hK
      exact op_move rfl (hout 23 ⟨by decide, Or.inl (by decide)⟩) (hK _ _ rfl (GR.refl _) hI)
    refine each_cons 95 96 rfl ?_ ?_
    · rintro u a hdep hout hI K hK
      exact op_conv rfl (hdep ⟨94, .data⟩ (by simp) rfl) (conv_bs _ _ _ (bsx.keep0 hI)) (hK _ _ rfl (GR.refl _) hI)
    refine each_cons 96 97 rfl ?_ ?_
    · rintro u a hdep hout hI K hK
      exact op_bin rfl (hdep ⟨95, .data⟩ (by simp) rfl) rfl (gd_str _ _ _ _ _ _ _) (eq_str _ _) (hK _ _ rfl (GR.refl _) hI)
    refine each_cons 97 98 rfl ?_ ?_
    · rintro u a hdep hout hI K hK
      exact op_pick rfl (hdep ⟨93, .data⟩ (by simp) rfl) (hdep ⟨96, .data⟩ (by simp) rfl) (hK _ _ rfl (GR.refl _) hI)
    refine each_cons 98 99 rfl ?_ ?_
    · rintro u a hdep hout hI K hK
      exact op_move rfl (hdep ⟨97, .data⟩ (by simp) rfl) (hK _ _ rfl (GR.refl _) hI)
    refine each_cons 99 100 rfl ?_ ?_
    · rintro u a hdep hout hI K hK
      exact op_move rfl (hout 24 ⟨by decide, Or.inl (by decide)⟩) (hK _ _ rfl (GR.refl _) hI)
    refine each_cons 100 101 rfl ?_ ?_
    · rintro u a hdep hout hI K hK
      exact op_conv rfl (hdep ⟨99, .data⟩ (by simp) rfl) (conv_bs _ _ _ (bsy.keep0 hI)) (hK _ _ rfl (GR.refl _) hI)
    refine each_cons 101 102 rfl ?_ ?_
    · rintro u a hdep hout hI K hK
      exact op_bin rfl (hdep ⟨100, .data⟩ (by simp) rfl) rfl (gd_str _ _ _ _ _ _ _) (eq_str _ _) (hK _ _ rfl (GR.refl _) hI)
    refine each_cons 102 103 rfl ?_ ?_
    · rintro u a hdep hout hI K hK
      exact op_pick rfl (hdep ⟨98, .data⟩ (by simp) rfl) (hdep ⟨101, .data⟩ (by simp) rfl) (hK _ _ rfl (GR.refl _) hI)
    refine each_cons 103 104 rfl ?_ ?_
    · rintro u a hdep hout hI K hK
      exact op_move rfl (hdep ⟨102, .data⟩ (by simp) rfl) (hK _ _ rfl (GR.refl _) hI)
    refine each_cons 104 105 rfl ?_ ?_
    · rintro u a hdep hout hI K hK
      exact op_calls #[.slice none 0 0, .int .u64 18446744073709551615] _ rfl (by simp only [List.map_toArray, List.map_cons, List.map_nil, Act.eval]) (enters_of Tryd.func26 (by kernel_rfl) rfl) (kn_p64 u) (fun e u2 h => (by obtain ⟨vq, rfl, oq, hg⟩ := h; exact ⟨_, rfl, hK _ _ (Bs.of_owns oq) (GR.of_grown hg) (gb_trans hI hg)⟩))
    refine each_cons 105 106 rfl ?_ ?_
    · rintro u a hdep hout hI K hK
      have hl : Bs u (a.tmps.getD 188 undef) [255, 255, 255, 255, 255, 255, 255, 255] := (hdep ⟨104, .data⟩ (by simp) rfl)
      exact op_conv rfl rfl (conv_bs _ _ _ hl) (hK _ _ rfl (GR.refl _) hI)
    refine each_cons 106 107 rfl ?_ ?_
    · rintro u a hdep hout hI K hK
      exact op_bin rfl (hdep ⟨105, .data⟩ (by simp) rfl) rfl (gd_str _ _ _ _ _ _ _) (eq_str _ _) (hK _ _ rfl (GR.refl _) hI)
    refine each_cons 107 108 rfl ?_ ?_
    · rintro u a hdep hout hI K hK
      exact op_pick rfl (hdep ⟨103, .data⟩ (by simp) rfl) (hdep ⟨106, .data⟩ (by simp) rfl) (hK _ _ rfl (GR.refl _) hI)
    refine each_cons 108 109 rfl ?_ ?_
    · rintro u a hdep hout hI K hK
      exact op_assign rfl (hdep ⟨107, .data⟩ (by simp) rfl) (hK _ _ rfl (GR.refl _) hI)
    exact each_nil _
  case hend =>
    intro a u hsz hdf hout hall hI
    have h0v : a.tmps.getD 0 undef = .bool true := hall 108 (by decide)
    go_wp2_with fail
    have hres := results_tmp (fn := Tryd.f7) (t := 0) rfl a.tmps Tryd.prog u
    rw [h0v] at hres
    exact bodyPost_ret hres hdf ⟨rfl, gb_trans gk hI⟩
end Go.Proofs.YtledflcedibfeaaDoor
