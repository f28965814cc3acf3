/-
  What the call of a reading for a cell answers and leaves (cell), over this seat's translation: what plain mathematics reads, or it gives up; conditions: the reading lies as it is told, its text is no longer than a machine's numbers tell.
-/
import Derived.Test.YthhimhjegodklaaGreatNs
namespace Go.Proofs.YthhimhjegodklaaGreat.N11
set_option linter.unusedSimpArgs false
set_option linter.unusedVariables false
open Go.RowKit
theorem loadC {w : World} {b : Nat} {o0 o1 o2 o3 : Value} (h : Blk w b 55 #[o0, o1, o2, o3]) : (loadVar 55 ⟨b, 0, none⟩).run Tryz.prog w = .ok (.agg #[o0, o1, o2, o3]) w :=
  run_loadVar_row (P := Tryz.prog) w b 55 55 #[o0, o1, o2, o3] (0, 0) _ h Tryz.underlying55 rfl (by show _ = some 4; kernel_rfl)
theorem results_k {fn : Func} {p : Tmp} (h : fn.results = #[.cell p 55]) (tmps : Array Value) (w : World) (b : Nat) (o0 o1 o2 o3 : Value) (hp : tmps.getD p undef = .pointer (some ⟨b, 0, none⟩)) (hb : Blk w b 55 #[o0, o1, o2, o3]) :
    (results fn tmps).run Tryz.prog w = .ok (.agg #[o0, o1, o2, o3]) w := by
  have hp' : tmps[p]?.getD undef = .pointer (some ⟨b, 0, none⟩) := by simpa using hp
  simp [results, h, hp', asAddr, loadC hb]
theorem st_cell {P : Program} {ops : Array Oper} {rest : List Oper} {a : Act} {w : World} {Q : Exit → Act → World → Prop} {x y : Operand} {ty : TypeId} {p : String} {af : Array Edge} (hP : P = Tryz.prog) (b : Nat) (t : TypeId) (k v : ByteArray) (f o : Int)
    (hx : a.eval x = .pointer (some ⟨b, 0, none⟩)) (hy : a.eval y = .agg #[.string k, .string v, .int .i64 f, .int .i64 o]) (o0 o1 o2 o3 : Value) (hb : Blk w b t #[o0, o1, o2, o3])
    (h : ∀ w', Blk w' b t #[.string k, .string v, .int .i64 f, .int .i64 o] → w.grownBy w' (some b) → wpList P ops Q rest a w') :
    wpList P ops Q (({ dst := none, op := .store 55 x y, type := ty, pos := p, after := af, guard := none } : Oper) :: rest) a w := by
  subst hP
  obtain ⟨h1, h2⟩ := st_nodeW hb (.string k) (.string v) (.int .i64 f) (.int .i64 o)
  exact wpList_plain rfl fun _ hK => wp_store_mid 55 x y rfl b 0 _ hx hy (there4 hb) (by kernel_rfl) (by kernel_rfl) (hK _ _ (h _ h1 h2))
theorem longer_gb (k v : ByteArray) (f l : Int) (w : World) : Calls Tryz.prog 66 #[.agg #[.string k, .string v, .int .i64 f, .int .i64 l]] w fun e w' => e = .returned (.bool (longB ⟨k, v, f, l⟩)) ∧ w.grownBy w' none :=
  (isLonger_any k v f l w).mono (fun _ _ h => ⟨h.1, h.2 ▸ gb_alloc _ _ _⟩)
theorem short_gb (k v : ByteArray) (f l : Int) (w : World) : Calls Tryz.prog 64 #[.agg #[.string k, .string v, .int .i64 f, .int .i64 l]] w fun e w' => e = .returned (.bool (shortB ⟨k, v, f, l⟩)) ∧ w.grownBy w' none :=
  (isShort_any k v f l w).mono (fun _ _ h => ⟨h.1, h.2 ▸ gb_alloc _ _ _⟩)
theorem head_cons {l : List UInt8} (h : l.head? = some 255) : ∃ r, l = 255 :: r := by
  cases l with
  | nil => cases h
  | cons x r => exact ⟨r, by rw [Option.some.inj h]⟩
/-- All ways in which a cell is read, or is not. -/
inductive CellWay (l : List UInt8) : Option (Ce × List UInt8) → Prop where
  | noKey : textR l = none → CellWay l none
  | noFirst (k : ByteArray) (r : List UInt8) : textR l = some (k, 255 :: r) → numR r = none → CellWay l none
  | noLong (k : ByteArray) (r r2 : List UInt8) (f : Nat) : textR l = some (k, 255 :: r) → numR r = some (f, r2) → numR r2 = none → CellWay l none
  | long (k : ByteArray) (r r2 r3 : List UInt8) (f o : Nat) : textR l = some (k, 255 :: r) → numR r = some (f, r2) → numR r2 = some (o, r3) → keyB k = true → longB ⟨k, ⟨#[]⟩, f, o⟩ = true → CellWay l (some (⟨k, ⟨#[]⟩, f, o⟩, r3))
  | badLong (k : ByteArray) (r r2 r3 : List UInt8) (f o : Nat) : textR l = some (k, 255 :: r) → numR r = some (f, r2) → numR r2 = some (o, r3) → (keyB k && longB ⟨k, ⟨#[]⟩, f, o⟩) = false → CellWay l none
  | noValue (k : ByteArray) (r : List UInt8) : textR l = some (k, r) → headB r = false → textR r = none → CellWay l none
  | short (k v : ByteArray) (r r2 : List UInt8) : textR l = some (k, r) → headB r = false → textR r = some (v, r2) → keyB k = true → shortB ⟨k, v, 0, 0⟩ = true → CellWay l (some (⟨k, v, 0, 0⟩, r2))
  | badShort (k v : ByteArray) (r r2 : List UInt8) : textR l = some (k, r) → headB r = false → textR r = some (v, r2) → (keyB k && shortB ⟨k, v, 0, 0⟩) = false → CellWay l none
theorem cellWay (l : List UInt8) : CellWay l (cellR l) := by
  unfold cellR
  cases ht : textR l with
  | none => exact .noKey ht
  | some x =>
    obtain ⟨k, r⟩ := x
    rw [Option.bind_some]
    try dsimp only
    split
    · rename_i hh
      obtain ⟨t, rfl⟩ := head_cons hh
      unfold longR
      rw [List.tail_cons]
      cases h1 : numR t with
      | none => exact .noFirst k t ht h1
      | some y =>
        obtain ⟨f, t2⟩ := y
        rw [Option.bind_some]
        try dsimp only
        cases h2 : numR t2 with
        | none => exact .noLong k t t2 f ht h1 h2
        | some z =>
          obtain ⟨o, t3⟩ := z
          rw [Option.bind_some]
          try dsimp only
          split
          · rename_i hb
            rw [Bool.and_eq_true] at hb
            exact .long k t t2 t3 f o ht h1 h2 hb.1 hb.2
          · rename_i hb
            exact .badLong k t t2 t3 f o ht h1 h2 (by rw [Bool.not_eq_true] at hb; exact hb)
    · rename_i hh
      have hz : headB r = false := by
        rcases hb : headB r with _ | _
        · rfl
        · exact absurd ((headB_iff r).1 hb) hh
      unfold shortR
      cases h1 : textR r with
      | none => exact .noValue k r ht hz h1
      | some y =>
        obtain ⟨v, t2⟩ := y
        rw [Option.bind_some]
        try dsimp only
        split
        · rename_i hb
          rw [Bool.and_eq_true] at hb
          exact .short k v r t2 ht hz h1 hb.1 hb.2
        · rename_i hb
          exact .badShort k v r t2 ht hz h1 (by rw [Bool.not_eq_true] at hb; exact hb)
def CellGot (b g : Nat) (s : ByteArray) (w : World) : Option (Ce × List UInt8) → Ending → World → Prop
  | some x => Took (.agg #[.string x.1.key, .string x.1.val, .int .i64 x.1.fi, .int .i64 x.1.lo]) b g s x.2 w
  | none => GaveUp b g s w
set_option maxRecDepth 100000 in
set_option maxHeartbeats 2000000 in
theorem cell_any (b g : Nat) (s : ByteArray) (l : List UInt8) (w : World) (h : RG w b g s l) (hs : s.size ≤ 9223372036854775807) : Calls Tryz.prog 52 #[.pointer (some ⟨g, 0, none⟩)] w (CellGot b g s w (cellR l)) := by
  obtain ⟨w0, hw0, kr, g0, hz0⟩ := new1 w 55 #[.string ⟨#[]⟩, .string ⟨#[]⟩, .int .i64 0, .int .i64 0]
  have HW := Lib.hid hw0
  have hrb : w.heap.size ≠ b := Nat.ne_of_gt h.ltb
  have hrg : w.heap.size ≠ g := Nat.ne_of_gt h.ltg
  have H0 := Lib.hid (h.keep0 g0)
  have K0 : Hid (Kq b g w w0) := Lib.hid (Kq.of0 g0)
  clear hw0 hz0 g0 h
  have hway := cellWay l
  generalize cellR l = way at hway ⊢
  cases hway with
  | noKey ht =>
      have HT := Lib.hid ht
      clear ht
      go_enter Tryz.func52, Tryz.ntmps52
      go_wp2_with (first
        | (go_at_call 57; rw [← HW.out]; (with_reducible refine (begin_any b g s l _ H0.out).mono ?_); rintro e w1 ⟨rfl, h1, k1⟩; have c0 := h1.c0; have H1 := Lib.hid h1; replace kr := k1.blk kr hrb hrg; have K1 := Lib.hid (K0.out.trans k1); clear h1 k1)
        | (go_at_call 62; (with_reducible refine (text_not b g s l _ H1.out hs HT.out).mono ?_); rintro e w2 ⟨a2, rfl, h2, k2⟩; have H2 := Lib.hid h2; have K2 := Lib.hid (K1.out.trans k2); clear h2 k2)
        | (go_at_call 61; (with_reducible refine (taken_s_no _ _ _).mono ?_); rintro e wt ⟨rfl, rfl⟩))
      exact ⟨rfl, _, _, rfl, .inl ⟨_, rfl⟩, H2.out, K2.out⟩
  | noFirst k t ht hf =>
      have HT := Lib.hid ht
      have HB : Hid (headB (255 :: t) = true) := Lib.hid rfl
      obtain ⟨r, hr⟩ : ∃ r, r = (255 :: t : List UInt8) := ⟨_, rfl⟩
      have HF := Lib.hid hf
      clear ht hf hr r
      go_enter Tryz.func52, Tryz.ntmps52
      go_wp2_with (first
        | (go_at_call 57; rw [← HW.out]; (with_reducible refine (begin_any b g s l _ H0.out).mono ?_); rintro e w1 ⟨rfl, h1, k1⟩; have c0 := h1.c0; have H1 := Lib.hid h1; replace kr := k1.blk kr hrb hrg; have K1 := Lib.hid (K0.out.trans k1); clear h1 k1)
        | (go_at_call 62; (with_reducible refine (text_got b g s k l (255 :: t) _ H1.out hs HT.out).mono ?_); rintro e w2 ⟨rfl, h2, k2⟩; clear c0; have H2 := Lib.hid h2; replace kr := k2.blk kr hrb hrg; have K2 := Lib.hid (K1.out.trans k2); have hcb : w2.heap.size ≠ b := Nat.ne_of_gt h2.ltb; have hcg : w2.heap.size ≠ g := Nat.ne_of_gt h2.ltg; have hcr : w.heap.size < w2.heap.size := kr.lt; clear h2 k2)
        | (go_at_call 61; (with_reducible refine (taken_s _ _).mono ?_); rintro e wt ⟨rfl, rfl⟩)
        | (go_at_call 65; obtain ⟨u2, hu2, kc, gu2, hz2⟩ := new1 w2 55 #[.string k, .string ⟨#[]⟩, .int .i64 0, .int .i64 0]; clear hz2; rw [← hu2]; (with_reducible refine (isLong_any b g s (255 :: t) u2 (H2.out.keep0 gu2) hs).mono ?_); rw [HB.out]; rintro e w3 ⟨rfl, g3⟩; clear hu2; replace kc := kc.keep0 g3; replace g3 := gb_trans gu2 g3; have H3 := Lib.hid (H2.out.keep0 g3); have c0 := H3.out.c0; replace kr := kr.keep0 g3; have K3 := Lib.hid (K2.out.trans (Kq.of0 g3)); clear gu2 g3)
        | (go_at_call 45; (with_reducible refine (num8_got b g s 255 t _ H3.out hs).mono ?_); rintro e w4 ⟨rfl, h4, k4⟩; clear c0; have c0 := h4.c0; have H4 := Lib.hid h4; replace kr := k4.blk kr hrb hrg; replace kc := k4.blk kc hcb hcg; have K4 := Lib.hid (K3.out.trans k4); clear h4 k4)
        | (go_at_call 44; (with_reducible refine (taken_u8 _ _).mono ?_); rintro e wt ⟨rfl, rfl⟩)
        | (go_at_call 59; (with_reducible refine (num16_not b g s t _ H4.out hs HF.out).mono ?_); rintro e w5 ⟨a5, rfl, h5, k5⟩; have H5 := Lib.hid h5; have K5 := Lib.hid (K4.out.trans k5); clear h5 k5)
        | (go_at_call 58; (with_reducible refine (taken_u16_no _ _ _).mono ?_); rintro e wt ⟨rfl, rfl⟩))
      exact ⟨rfl, _, _, rfl, .inl ⟨_, rfl⟩, H5.out, K5.out⟩
  | noLong k t t2 f ht hf ho =>
      have HT := Lib.hid ht
      have HB : Hid (headB (255 :: t) = true) := Lib.hid rfl
      have hfb := (numR_got hf).1
      have q1 : IntKind.i64.wrap (f : Int) = (f : Int) := IntWalk.i64_in _ (by omega)
      have HF := Lib.hid hf
      have HO := Lib.hid ho
      clear ht hf ho
      go_enter Tryz.func52, Tryz.ntmps52
      go_wp2_with (first
        | (go_at_call 57; rw [← HW.out]; (with_reducible refine (begin_any b g s l _ H0.out).mono ?_); rintro e w1 ⟨rfl, h1, k1⟩; have c0 := h1.c0; have H1 := Lib.hid h1; replace kr := k1.blk kr hrb hrg; have K1 := Lib.hid (K0.out.trans k1); clear h1 k1)
        | (go_at_call 62; (with_reducible refine (text_got b g s k l (255 :: t) _ H1.out hs HT.out).mono ?_); rintro e w2 ⟨rfl, h2, k2⟩; clear c0; have H2 := Lib.hid h2; replace kr := k2.blk kr hrb hrg; have K2 := Lib.hid (K1.out.trans k2); have hcb : w2.heap.size ≠ b := Nat.ne_of_gt h2.ltb; have hcg : w2.heap.size ≠ g := Nat.ne_of_gt h2.ltg; have hcr : w.heap.size < w2.heap.size := kr.lt; clear h2 k2)
        | (go_at_call 61; (with_reducible refine (taken_s _ _).mono ?_); rintro e wt ⟨rfl, rfl⟩)
        | (go_at_call 65; obtain ⟨u2, hu2, kc, gu2, hz2⟩ := new1 w2 55 #[.string k, .string ⟨#[]⟩, .int .i64 0, .int .i64 0]; clear hz2; rw [← hu2]; (with_reducible refine (isLong_any b g s (255 :: t) u2 (H2.out.keep0 gu2) hs).mono ?_); rw [HB.out]; rintro e w3 ⟨rfl, g3⟩; clear hu2; replace kc := kc.keep0 g3; replace g3 := gb_trans gu2 g3; have H3 := Lib.hid (H2.out.keep0 g3); have c0 := H3.out.c0; replace kr := kr.keep0 g3; have K3 := Lib.hid (K2.out.trans (Kq.of0 g3)); clear gu2 g3)
        | (go_at_call 45; (with_reducible refine (num8_got b g s 255 t _ H3.out hs).mono ?_); rintro e w4 ⟨rfl, h4, k4⟩; clear c0; have c0 := h4.c0; have H4 := Lib.hid h4; replace kr := k4.blk kr hrb hrg; replace kc := k4.blk kc hcb hcg; have K4 := Lib.hid (K3.out.trans k4); clear h4 k4)
        | (go_at_call 44; (with_reducible refine (taken_u8 _ _).mono ?_); rintro e wt ⟨rfl, rfl⟩)
        | (first | (go_at_call 59; (with_reducible refine (num16_got b g s f t t2 _ H4.out hs HF.out).mono ?_); rintro e w5 ⟨rfl, h5, k5⟩; clear c0; have c0 := h5.c0; have H5 := Lib.hid h5; replace kr := k5.blk kr hrb hrg; replace kc := k5.blk kc hcb hcg; have e2 := kc.cell 2 rfl; have f2 := kc.free 2; have K5 := Lib.hid (K4.out.trans k5); clear h5 k5) | (go_at_call 59; obtain ⟨u5, hu5⟩ : ∃ u : World, u = w5.setCell ⟨w2.heap.size, 2, none⟩ (.int .i64 f) := ⟨_, rfl⟩; rw [← hu5]; have gs5 : w5.grownBy u5 (some w2.heap.size) := (by rw [hu5]; exact gb_set _ _ _ _ _); replace kc : Blk u5 w2.heap.size 55 #[.string k, .string ⟨#[]⟩, .int .i64 f, .int .i64 0] := (by rw [hu5]; exact kc.set 2 _); clear hu5 e2 f2; replace kr := kr.keep gs5 (ne_some (Nat.ne_of_lt hcr)); replace H5 := Lib.hid (H5.out.keep gs5 hcb hcg); replace K5 := Lib.hid (K5.out.step gs5 (Nat.le_of_lt hcr)); clear gs5; (with_reducible refine (num16_not b g s t2 _ H5.out hs HO.out).mono ?_); rintro e w6 ⟨a6, rfl, h6, k6⟩; have H6 := Lib.hid h6; have K6 := Lib.hid (K5.out.trans k6); clear h6 k6))
        | (go_at_call 58; (with_reducible refine (taken_u16 _ _).mono ?_); rintro e wt ⟨rfl, rfl⟩)
        | (go_at_call 58; (with_reducible refine (taken_u16_no _ _ _).mono ?_); rintro e wt ⟨rfl, rfl⟩))
      exact ⟨rfl, _, _, rfl, .inl ⟨_, rfl⟩, H6.out, K6.out⟩
  | long k t t2 t3 f o ht hf ho hb1 hb2 =>
      have HT := Lib.hid ht
      have HB : Hid (headB (255 :: t) = true) := Lib.hid rfl
      have hfb := (numR_got hf).1
      have q1 : IntKind.i64.wrap (f : Int) = (f : Int) := IntWalk.i64_in _ (by omega)
      have hob := (numR_got ho).1
      have q2 : IntKind.i64.wrap (o : Int) = (o : Int) := IntWalk.i64_in _ (by omega)
      have HF := Lib.hid hf
      have HO := Lib.hid ho
      have HK := Lib.hid (isKey_any k)
      have HV := Lib.hid (longer_gb k ⟨#[]⟩ f o)
      rw [hb1] at HK
      rw [hb2] at HV
      clear ht hf ho hb1 hb2
      go_enter Tryz.func52, Tryz.ntmps52
      go_wp2_with (first
        | (go_at_call 57; rw [← HW.out]; (with_reducible refine (begin_any b g s l _ H0.out).mono ?_); rintro e w1 ⟨rfl, h1, k1⟩; have c0 := h1.c0; have H1 := Lib.hid h1; replace kr := k1.blk kr hrb hrg; have K1 := Lib.hid (K0.out.trans k1); clear h1 k1)
        | (go_at_call 62; (with_reducible refine (text_got b g s k l (255 :: t) _ H1.out hs HT.out).mono ?_); rintro e w2 ⟨rfl, h2, k2⟩; clear c0; have H2 := Lib.hid h2; replace kr := k2.blk kr hrb hrg; have K2 := Lib.hid (K1.out.trans k2); have hcb : w2.heap.size ≠ b := Nat.ne_of_gt h2.ltb; have hcg : w2.heap.size ≠ g := Nat.ne_of_gt h2.ltg; have hcr : w.heap.size < w2.heap.size := kr.lt; clear h2 k2)
        | (go_at_call 61; (with_reducible refine (taken_s _ _).mono ?_); rintro e wt ⟨rfl, rfl⟩)
        | (go_at_call 65; obtain ⟨u2, hu2, kc, gu2, hz2⟩ := new1 w2 55 #[.string k, .string ⟨#[]⟩, .int .i64 0, .int .i64 0]; clear hz2; rw [← hu2]; (with_reducible refine (isLong_any b g s (255 :: t) u2 (H2.out.keep0 gu2) hs).mono ?_); rw [HB.out]; rintro e w3 ⟨rfl, g3⟩; clear hu2; replace kc := kc.keep0 g3; replace g3 := gb_trans gu2 g3; have H3 := Lib.hid (H2.out.keep0 g3); have c0 := H3.out.c0; replace kr := kr.keep0 g3; have K3 := Lib.hid (K2.out.trans (Kq.of0 g3)); clear gu2 g3)
        | (go_at_call 45; (with_reducible refine (num8_got b g s 255 t _ H3.out hs).mono ?_); rintro e w4 ⟨rfl, h4, k4⟩; clear c0; have c0 := h4.c0; have H4 := Lib.hid h4; replace kr := k4.blk kr hrb hrg; replace kc := k4.blk kc hcb hcg; have K4 := Lib.hid (K3.out.trans k4); clear h4 k4)
        | (go_at_call 44; (with_reducible refine (taken_u8 _ _).mono ?_); rintro e wt ⟨rfl, rfl⟩)
        | (first | (go_at_call 59; (with_reducible refine (num16_got b g s f t t2 _ H4.out hs HF.out).mono ?_); rintro e w5 ⟨rfl, h5, k5⟩; clear c0; have c0 := h5.c0; have H5 := Lib.hid h5; replace kr := k5.blk kr hrb hrg; replace kc := k5.blk kc hcb hcg; have e2 := kc.cell 2 rfl; have f2 := kc.free 2; have K5 := Lib.hid (K4.out.trans k5); clear h5 k5) | (go_at_call 59; obtain ⟨u5, hu5⟩ : ∃ u : World, u = w5.setCell ⟨w2.heap.size, 2, none⟩ (.int .i64 f) := ⟨_, rfl⟩; rw [← hu5]; have gs5 : w5.grownBy u5 (some w2.heap.size) := (by rw [hu5]; exact gb_set _ _ _ _ _); replace kc : Blk u5 w2.heap.size 55 #[.string k, .string ⟨#[]⟩, .int .i64 f, .int .i64 0] := (by rw [hu5]; exact kc.set 2 _); clear hu5 e2 f2; replace kr := kr.keep gs5 (ne_some (Nat.ne_of_lt hcr)); replace H5 := Lib.hid (H5.out.keep gs5 hcb hcg); replace K5 := Lib.hid (K5.out.step gs5 (Nat.le_of_lt hcr)); clear gs5; (with_reducible refine (num16_got b g s o t2 t3 _ H5.out hs HO.out).mono ?_); rintro e w6 ⟨rfl, h6, k6⟩; clear c0; have H6 := Lib.hid h6; replace kr := k6.blk kr hrb hrg; replace kc := k6.blk kc hcb hcg; have e0 := kc.cell 0 rfl; have e1 := kc.cell 1 rfl; have e2 := kc.cell 2 rfl; have e3 := kc.cell 3 rfl; have f3 := kc.free 3; have K6 := Lib.hid (K5.out.trans k6); clear h6 k6))
        | (go_at_call 58; (with_reducible refine (taken_u16 _ _).mono ?_); rintro e wt ⟨rfl, rfl⟩)
        | (go_at_call 63; obtain ⟨u6, hu6⟩ : ∃ u : World, u = w6.setCell ⟨w2.heap.size, 3, none⟩ (.int .i64 o) := ⟨_, rfl⟩; rw [← hu6]; have gs6 : w6.grownBy u6 (some w2.heap.size) := (by rw [hu6]; exact gb_set _ _ _ _ _); replace kc : Blk u6 w2.heap.size 55 #[.string k, .string ⟨#[]⟩, .int .i64 f, .int .i64 o] := (by rw [hu6]; exact kc.set 3 _); clear hu6 e0 e1 e2 e3; replace kr := kr.keep gs6 (ne_some (Nat.ne_of_lt hcr)); replace H6 := Lib.hid (H6.out.keep gs6 hcb hcg); replace K6 := Lib.hid (K6.out.step gs6 (Nat.le_of_lt hcr)); clear gs6; have e0 := kc.cell 0 rfl; have e1 := kc.cell 1 rfl; have e2 := kc.cell 2 rfl; have e3 := kc.cell 3 rfl; (with_reducible refine (HK.out _).mono ?_); rintro e wk ⟨rfl, rfl⟩)
        | (go_at_call 66; (with_reducible refine (HV.out _).mono ?_); rintro e w8 ⟨rfl, g8⟩; clear e0 e1 e2 e3; replace kc := kc.keep0 g8; replace kr := kr.keep0 g8; have H8 := Lib.hid (H6.out.keep0 g8); have K8 := Lib.hid (K6.out.trans (Kq.of0 g8)); have e0 := kc.cell 0 rfl; have e1 := kc.cell 1 rfl; have e2 := kc.cell 2 rfl; have e3 := kc.cell 3 rfl; clear g8)
        | (go_at_call 43; (with_reducible refine (must_ok _ _).mono ?_); rintro e wm ⟨rfl, rfl⟩)
        | ((with_reducible refine st_cell rfl w.heap.size 55 k ⟨#[]⟩ f o ?_ ?_ _ _ _ _ kr ?_); (· rfl); (· rfl); intro w9 n9 g9))
      refine bodyPost_ret (results_k rfl _ _ _ _ _ _ _ rfl n9) rfl ⟨rfl, ?_, ?_⟩
      · exact H8.out.keep g9 hrb hrg
      · exact K8.out.step g9 (Nat.le_refl _)
  | badLong k t t2 t3 f o ht hf ho hb =>
      have HT := Lib.hid ht
      have HB : Hid (headB (255 :: t) = true) := Lib.hid rfl
      have hfb := (numR_got hf).1
      have q1 : IntKind.i64.wrap (f : Int) = (f : Int) := IntWalk.i64_in _ (by omega)
      have hob := (numR_got ho).1
      have q2 : IntKind.i64.wrap (o : Int) = (o : Int) := IntWalk.i64_in _ (by omega)
      have HF := Lib.hid hf
      have HO := Lib.hid ho
      have HK := Lib.hid (isKey_any k)
      have HV := Lib.hid (longer_gb k ⟨#[]⟩ f o)
      rcases hk : keyB k with _ | _
      · rw [hk] at HK
        clear ht hf ho hb hk HV
        go_enter Tryz.func52, Tryz.ntmps52
        go_wp2_with (first
          | (go_at_call 57; rw [← HW.out]; (with_reducible refine (begin_any b g s l _ H0.out).mono ?_); rintro e w1 ⟨rfl, h1, k1⟩; have c0 := h1.c0; have H1 := Lib.hid h1; replace kr := k1.blk kr hrb hrg; have K1 := Lib.hid (K0.out.trans k1); clear h1 k1)
          | (go_at_call 62; (with_reducible refine (text_got b g s k l (255 :: t) _ H1.out hs HT.out).mono ?_); rintro e w2 ⟨rfl, h2, k2⟩; clear c0; have H2 := Lib.hid h2; replace kr := k2.blk kr hrb hrg; have K2 := Lib.hid (K1.out.trans k2); have hcb : w2.heap.size ≠ b := Nat.ne_of_gt h2.ltb; have hcg : w2.heap.size ≠ g := Nat.ne_of_gt h2.ltg; have hcr : w.heap.size < w2.heap.size := kr.lt; clear h2 k2)
          | (go_at_call 61; (with_reducible refine (taken_s _ _).mono ?_); rintro e wt ⟨rfl, rfl⟩)
          | (go_at_call 65; obtain ⟨u2, hu2, kc, gu2, hz2⟩ := new1 w2 55 #[.string k, .string ⟨#[]⟩, .int .i64 0, .int .i64 0]; clear hz2; rw [← hu2]; (with_reducible refine (isLong_any b g s (255 :: t) u2 (H2.out.keep0 gu2) hs).mono ?_); rw [HB.out]; rintro e w3 ⟨rfl, g3⟩; clear hu2; replace kc := kc.keep0 g3; replace g3 := gb_trans gu2 g3; have H3 := Lib.hid (H2.out.keep0 g3); have c0 := H3.out.c0; replace kr := kr.keep0 g3; have K3 := Lib.hid (K2.out.trans (Kq.of0 g3)); clear gu2 g3)
          | (go_at_call 45; (with_reducible refine (num8_got b g s 255 t _ H3.out hs).mono ?_); rintro e w4 ⟨rfl, h4, k4⟩; clear c0; have c0 := h4.c0; have H4 := Lib.hid h4; replace kr := k4.blk kr hrb hrg; replace kc := k4.blk kc hcb hcg; have K4 := Lib.hid (K3.out.trans k4); clear h4 k4)
          | (go_at_call 44; (with_reducible refine (taken_u8 _ _).mono ?_); rintro e wt ⟨rfl, rfl⟩)
          | (first | (go_at_call 59; (with_reducible refine (num16_got b g s f t t2 _ H4.out hs HF.out).mono ?_); rintro e w5 ⟨rfl, h5, k5⟩; clear c0; have c0 := h5.c0; have H5 := Lib.hid h5; replace kr := k5.blk kr hrb hrg; replace kc := k5.blk kc hcb hcg; have e2 := kc.cell 2 rfl; have f2 := kc.free 2; have K5 := Lib.hid (K4.out.trans k5); clear h5 k5) | (go_at_call 59; obtain ⟨u5, hu5⟩ : ∃ u : World, u = w5.setCell ⟨w2.heap.size, 2, none⟩ (.int .i64 f) := ⟨_, rfl⟩; rw [← hu5]; have gs5 : w5.grownBy u5 (some w2.heap.size) := (by rw [hu5]; exact gb_set _ _ _ _ _); replace kc : Blk u5 w2.heap.size 55 #[.string k, .string ⟨#[]⟩, .int .i64 f, .int .i64 0] := (by rw [hu5]; exact kc.set 2 _); clear hu5 e2 f2; replace kr := kr.keep gs5 (ne_some (Nat.ne_of_lt hcr)); replace H5 := Lib.hid (H5.out.keep gs5 hcb hcg); replace K5 := Lib.hid (K5.out.step gs5 (Nat.le_of_lt hcr)); clear gs5; (with_reducible refine (num16_got b g s o t2 t3 _ H5.out hs HO.out).mono ?_); rintro e w6 ⟨rfl, h6, k6⟩; clear c0; have H6 := Lib.hid h6; replace kr := k6.blk kr hrb hrg; replace kc := k6.blk kc hcb hcg; have e0 := kc.cell 0 rfl; have e1 := kc.cell 1 rfl; have e2 := kc.cell 2 rfl; have e3 := kc.cell 3 rfl; have f3 := kc.free 3; have K6 := Lib.hid (K5.out.trans k6); clear h6 k6))
          | (go_at_call 58; (with_reducible refine (taken_u16 _ _).mono ?_); rintro e wt ⟨rfl, rfl⟩)
          | (go_at_call 63; obtain ⟨u6, hu6⟩ : ∃ u : World, u = w6.setCell ⟨w2.heap.size, 3, none⟩ (.int .i64 o) := ⟨_, rfl⟩; rw [← hu6]; have gs6 : w6.grownBy u6 (some w2.heap.size) := (by rw [hu6]; exact gb_set _ _ _ _ _); replace kc : Blk u6 w2.heap.size 55 #[.string k, .string ⟨#[]⟩, .int .i64 f, .int .i64 o] := (by rw [hu6]; exact kc.set 3 _); clear hu6 e0 e1 e2 e3; replace kr := kr.keep gs6 (ne_some (Nat.ne_of_lt hcr)); replace H6 := Lib.hid (H6.out.keep gs6 hcb hcg); replace K6 := Lib.hid (K6.out.step gs6 (Nat.le_of_lt hcr)); clear gs6; have e0 := kc.cell 0 rfl; have e1 := kc.cell 1 rfl; have e2 := kc.cell 2 rfl; have e3 := kc.cell 3 rfl; (with_reducible refine (HK.out _).mono ?_); rintro e wk ⟨rfl, rfl⟩)
          | (go_at_call 43; (with_reducible refine (must_no _ _).mono ?_); rintro e wm ⟨rfl, rfl⟩))
        exact ⟨rfl, _, _, rfl, .inr ⟨_, rfl⟩, H6.out, K6.out⟩
      · have hlb : longB ⟨k, ⟨#[]⟩, f, o⟩ = false := by rw [hk] at hb; simpa using hb
        rw [hk] at HK
        rw [hlb] at HV
        clear ht hf ho hb hk hlb
        go_enter Tryz.func52, Tryz.ntmps52
        go_wp2_with (first
          | (go_at_call 57; rw [← HW.out]; (with_reducible refine (begin_any b g s l _ H0.out).mono ?_); rintro e w1 ⟨rfl, h1, k1⟩; have c0 := h1.c0; have H1 := Lib.hid h1; replace kr := k1.blk kr hrb hrg; have K1 := Lib.hid (K0.out.trans k1); clear h1 k1)
          | (go_at_call 62; (with_reducible refine (text_got b g s k l (255 :: t) _ H1.out hs HT.out).mono ?_); rintro e w2 ⟨rfl, h2, k2⟩; clear c0; have H2 := Lib.hid h2; replace kr := k2.blk kr hrb hrg; have K2 := Lib.hid (K1.out.trans k2); have hcb : w2.heap.size ≠ b := Nat.ne_of_gt h2.ltb; have hcg : w2.heap.size ≠ g := Nat.ne_of_gt h2.ltg; have hcr : w.heap.size < w2.heap.size := kr.lt; clear h2 k2)
          | (go_at_call 61; (with_reducible refine (taken_s _ _).mono ?_); rintro e wt ⟨rfl, rfl⟩)
          | (go_at_call 65; obtain ⟨u2, hu2, kc, gu2, hz2⟩ := new1 w2 55 #[.string k, .string ⟨#[]⟩, .int .i64 0, .int .i64 0]; clear hz2; rw [← hu2]; (with_reducible refine (isLong_any b g s (255 :: t) u2 (H2.out.keep0 gu2) hs).mono ?_); rw [HB.out]; rintro e w3 ⟨rfl, g3⟩; clear hu2; replace kc := kc.keep0 g3; replace g3 := gb_trans gu2 g3; have H3 := Lib.hid (H2.out.keep0 g3); have c0 := H3.out.c0; replace kr := kr.keep0 g3; have K3 := Lib.hid (K2.out.trans (Kq.of0 g3)); clear gu2 g3)
          | (go_at_call 45; (with_reducible refine (num8_got b g s 255 t _ H3.out hs).mono ?_); rintro e w4 ⟨rfl, h4, k4⟩; clear c0; have c0 := h4.c0; have H4 := Lib.hid h4; replace kr := k4.blk kr hrb hrg; replace kc := k4.blk kc hcb hcg; have K4 := Lib.hid (K3.out.trans k4); clear h4 k4)
          | (go_at_call 44; (with_reducible refine (taken_u8 _ _).mono ?_); rintro e wt ⟨rfl, rfl⟩)
          | (first | (go_at_call 59; (with_reducible refine (num16_got b g s f t t2 _ H4.out hs HF.out).mono ?_); rintro e w5 ⟨rfl, h5, k5⟩; clear c0; have c0 := h5.c0; have H5 := Lib.hid h5; replace kr := k5.blk kr hrb hrg; replace kc := k5.blk kc hcb hcg; have e2 := kc.cell 2 rfl; have f2 := kc.free 2; have K5 := Lib.hid (K4.out.trans k5); clear h5 k5) | (go_at_call 59; obtain ⟨u5, hu5⟩ : ∃ u : World, u = w5.setCell ⟨w2.heap.size, 2, none⟩ (.int .i64 f) := ⟨_, rfl⟩; rw [← hu5]; have gs5 : w5.grownBy u5 (some w2.heap.size) := (by rw [hu5]; exact gb_set _ _ _ _ _); replace kc : Blk u5 w2.heap.size 55 #[.string k, .string ⟨#[]⟩, .int .i64 f, .int .i64 0] := (by rw [hu5]; exact kc.set 2 _); clear hu5 e2 f2; replace kr := kr.keep gs5 (ne_some (Nat.ne_of_lt hcr)); replace H5 := Lib.hid (H5.out.keep gs5 hcb hcg); replace K5 := Lib.hid (K5.out.step gs5 (Nat.le_of_lt hcr)); clear gs5; (with_reducible refine (num16_got b g s o t2 t3 _ H5.out hs HO.out).mono ?_); rintro e w6 ⟨rfl, h6, k6⟩; clear c0; have H6 := Lib.hid h6; replace kr := k6.blk kr hrb hrg; replace kc := k6.blk kc hcb hcg; have e0 := kc.cell 0 rfl; have e1 := kc.cell 1 rfl; have e2 := kc.cell 2 rfl; have e3 := kc.cell 3 rfl; have f3 := kc.free 3; have K6 := Lib.hid (K5.out.trans k6); clear h6 k6))
          | (go_at_call 58; (with_reducible refine (taken_u16 _ _).mono ?_); rintro e wt ⟨rfl, rfl⟩)
          | (go_at_call 63; obtain ⟨u6, hu6⟩ : ∃ u : World, u = w6.setCell ⟨w2.heap.size, 3, none⟩ (.int .i64 o) := ⟨_, rfl⟩; rw [← hu6]; have gs6 : w6.grownBy u6 (some w2.heap.size) := (by rw [hu6]; exact gb_set _ _ _ _ _); replace kc : Blk u6 w2.heap.size 55 #[.string k, .string ⟨#[]⟩, .int .i64 f, .int .i64 o] := (by rw [hu6]; exact kc.set 3 _); clear hu6 e0 e1 e2 e3; replace kr := kr.keep gs6 (ne_some (Nat.ne_of_lt hcr)); replace H6 := Lib.hid (H6.out.keep gs6 hcb hcg); replace K6 := Lib.hid (K6.out.step gs6 (Nat.le_of_lt hcr)); clear gs6; have e0 := kc.cell 0 rfl; have e1 := kc.cell 1 rfl; have e2 := kc.cell 2 rfl; have e3 := kc.cell 3 rfl; (with_reducible refine (HK.out _).mono ?_); rintro e wk ⟨rfl, rfl⟩)
          | (go_at_call 66; (with_reducible refine (HV.out _).mono ?_); rintro e w8 ⟨rfl, g8⟩; clear e0 e1 e2 e3; replace kc := kc.keep0 g8; replace kr := kr.keep0 g8; have H8 := Lib.hid (H6.out.keep0 g8); have K8 := Lib.hid (K6.out.trans (Kq.of0 g8)); have e0 := kc.cell 0 rfl; have e1 := kc.cell 1 rfl; have e2 := kc.cell 2 rfl; have e3 := kc.cell 3 rfl; clear g8)
          | (go_at_call 43; (with_reducible refine (must_no _ _).mono ?_); rintro e wm ⟨rfl, rfl⟩))
        exact ⟨rfl, _, _, rfl, .inr ⟨_, rfl⟩, H8.out, K8.out⟩
  | noValue k r ht hh hv =>
      have HT := Lib.hid ht
      have HB := Lib.hid hh
      have HV2 := Lib.hid hv
      clear ht hh hv
      go_enter Tryz.func52, Tryz.ntmps52
      go_wp2_with (first
        | (go_at_call 57; rw [← HW.out]; (with_reducible refine (begin_any b g s l _ H0.out).mono ?_); rintro e w1 ⟨rfl, h1, k1⟩; have c0 := h1.c0; have H1 := Lib.hid h1; replace kr := k1.blk kr hrb hrg; have K1 := Lib.hid (K0.out.trans k1); clear h1 k1)
        | (first | (go_at_call 62; (with_reducible refine (text_got b g s k l r _ H1.out hs HT.out).mono ?_); rintro e w2 ⟨rfl, h2, k2⟩; clear c0; have H2 := Lib.hid h2; replace kr := k2.blk kr hrb hrg; have K2 := Lib.hid (K1.out.trans k2); have hcb : w2.heap.size ≠ b := Nat.ne_of_gt h2.ltb; have hcg : w2.heap.size ≠ g := Nat.ne_of_gt h2.ltg; have hcr : w.heap.size < w2.heap.size := kr.lt; clear h2 k2) | (go_at_call 62; (with_reducible refine (text_not b g s r _ H3.out hs HV2.out).mono ?_); rintro e w6 ⟨a6, rfl, h6, k6⟩; have H6 := Lib.hid h6; have K6 := Lib.hid (K3.out.trans k6); clear h6 k6))
        | (go_at_call 61; (with_reducible refine (taken_s _ _).mono ?_); rintro e wt ⟨rfl, rfl⟩)
        | (go_at_call 61; (with_reducible refine (taken_s_no _ _ _).mono ?_); rintro e wt ⟨rfl, rfl⟩)
        | (go_at_call 65; obtain ⟨u2, hu2, kc, gu2, hz2⟩ := new1 w2 55 #[.string k, .string ⟨#[]⟩, .int .i64 0, .int .i64 0]; clear hz2; rw [← hu2]; (with_reducible refine (isLong_any b g s r u2 (H2.out.keep0 gu2) hs).mono ?_); rw [HB.out]; rintro e w3 ⟨rfl, g3⟩; clear hu2; replace kc := kc.keep0 g3; replace g3 := gb_trans gu2 g3; have H3 := Lib.hid (H2.out.keep0 g3); have c0 := H3.out.c0; replace kr := kr.keep0 g3; have K3 := Lib.hid (K2.out.trans (Kq.of0 g3)); clear gu2 g3))
      exact ⟨rfl, _, _, rfl, .inl ⟨_, rfl⟩, H6.out, K6.out⟩
  | short k v r r2 ht hh hv hb1 hb2 =>
      have HT := Lib.hid ht
      have HB := Lib.hid hh
      have HV2 := Lib.hid hv
      have HK := Lib.hid (isKey_any k)
      have HV := Lib.hid (short_gb k v 0 0)
      rw [hb1] at HK
      rw [hb2] at HV
      clear ht hh hv hb1 hb2
      go_enter Tryz.func52, Tryz.ntmps52
      go_wp2_with (first
        | (go_at_call 57; rw [← HW.out]; (with_reducible refine (begin_any b g s l _ H0.out).mono ?_); rintro e w1 ⟨rfl, h1, k1⟩; have c0 := h1.c0; have H1 := Lib.hid h1; replace kr := k1.blk kr hrb hrg; have K1 := Lib.hid (K0.out.trans k1); clear h1 k1)
        | (first | (go_at_call 62; (with_reducible refine (text_got b g s k l r _ H1.out hs HT.out).mono ?_); rintro e w2 ⟨rfl, h2, k2⟩; clear c0; have H2 := Lib.hid h2; replace kr := k2.blk kr hrb hrg; have K2 := Lib.hid (K1.out.trans k2); have hcb : w2.heap.size ≠ b := Nat.ne_of_gt h2.ltb; have hcg : w2.heap.size ≠ g := Nat.ne_of_gt h2.ltg; have hcr : w.heap.size < w2.heap.size := kr.lt; clear h2 k2) | (go_at_call 62; (with_reducible refine (text_got b g s v r r2 _ H3.out hs HV2.out).mono ?_); rintro e w6 ⟨rfl, h6, k6⟩; clear c0; have H6 := Lib.hid h6; replace kr := k6.blk kr hrb hrg; replace kc := k6.blk kc hcb hcg; have e0 := kc.cell 0 rfl; have e1 := kc.cell 1 rfl; have e2 := kc.cell 2 rfl; have e3 := kc.cell 3 rfl; have f1 := kc.free 1; have K6 := Lib.hid (K3.out.trans k6); clear h6 k6))
        | (go_at_call 61; (with_reducible refine (taken_s _ _).mono ?_); rintro e wt ⟨rfl, rfl⟩)
        | (go_at_call 65; obtain ⟨u2, hu2, kc, gu2, hz2⟩ := new1 w2 55 #[.string k, .string ⟨#[]⟩, .int .i64 0, .int .i64 0]; clear hz2; rw [← hu2]; (with_reducible refine (isLong_any b g s r u2 (H2.out.keep0 gu2) hs).mono ?_); rw [HB.out]; rintro e w3 ⟨rfl, g3⟩; clear hu2; replace kc := kc.keep0 g3; replace g3 := gb_trans gu2 g3; have H3 := Lib.hid (H2.out.keep0 g3); have c0 := H3.out.c0; replace kr := kr.keep0 g3; have K3 := Lib.hid (K2.out.trans (Kq.of0 g3)); clear gu2 g3)
        | (go_at_call 63; obtain ⟨u6, hu6⟩ : ∃ u : World, u = w6.setCell ⟨w2.heap.size, 1, none⟩ (.string v) := ⟨_, rfl⟩; rw [← hu6]; have gs6 : w6.grownBy u6 (some w2.heap.size) := (by rw [hu6]; exact gb_set _ _ _ _ _); replace kc : Blk u6 w2.heap.size 55 #[.string k, .string v, .int .i64 0, .int .i64 0] := (by rw [hu6]; exact kc.set 1 _); clear hu6 e0 e1 e2 e3; replace kr := kr.keep gs6 (ne_some (Nat.ne_of_lt hcr)); replace H6 := Lib.hid (H6.out.keep gs6 hcb hcg); replace K6 := Lib.hid (K6.out.step gs6 (Nat.le_of_lt hcr)); clear gs6; have e0 := kc.cell 0 rfl; have e1 := kc.cell 1 rfl; have e2 := kc.cell 2 rfl; have e3 := kc.cell 3 rfl; (with_reducible refine (HK.out _).mono ?_); rintro e wk ⟨rfl, rfl⟩)
        | (go_at_call 64; (with_reducible refine (HV.out _).mono ?_); rintro e w8 ⟨rfl, g8⟩; clear e0 e1 e2 e3; replace kc := kc.keep0 g8; replace kr := kr.keep0 g8; have H8 := Lib.hid (H6.out.keep0 g8); have K8 := Lib.hid (K6.out.trans (Kq.of0 g8)); have e0 := kc.cell 0 rfl; have e1 := kc.cell 1 rfl; have e2 := kc.cell 2 rfl; have e3 := kc.cell 3 rfl; clear g8)
        | (go_at_call 43; (with_reducible refine (must_ok _ _).mono ?_); rintro e wm ⟨rfl, rfl⟩)
        | ((with_reducible refine st_cell rfl w.heap.size 55 k v 0 0 ?_ ?_ _ _ _ _ kr ?_); (· rfl); (· rfl); intro w9 n9 g9))
      refine bodyPost_ret (results_k rfl _ _ _ _ _ _ _ rfl n9) rfl ⟨rfl, ?_, ?_⟩
      · exact H8.out.keep g9 hrb hrg
      · exact K8.out.step g9 (Nat.le_refl _)
  | badShort k v r r2 ht hh hv hb =>
      have HT := Lib.hid ht
      have HB := Lib.hid hh
      have HV2 := Lib.hid hv
      have HK := Lib.hid (isKey_any k)
      have HV := Lib.hid (short_gb k v 0 0)
      rcases hk : keyB k with _ | _
      · rw [hk] at HK
        clear ht hh hv hb hk HV
        go_enter Tryz.func52, Tryz.ntmps52
        go_wp2_with (first
          | (go_at_call 57; rw [← HW.out]; (with_reducible refine (begin_any b g s l _ H0.out).mono ?_); rintro e w1 ⟨rfl, h1, k1⟩; have c0 := h1.c0; have H1 := Lib.hid h1; replace kr := k1.blk kr hrb hrg; have K1 := Lib.hid (K0.out.trans k1); clear h1 k1)
          | (first | (go_at_call 62; (with_reducible refine (text_got b g s k l r _ H1.out hs HT.out).mono ?_); rintro e w2 ⟨rfl, h2, k2⟩; clear c0; have H2 := Lib.hid h2; replace kr := k2.blk kr hrb hrg; have K2 := Lib.hid (K1.out.trans k2); have hcb : w2.heap.size ≠ b := Nat.ne_of_gt h2.ltb; have hcg : w2.heap.size ≠ g := Nat.ne_of_gt h2.ltg; have hcr : w.heap.size < w2.heap.size := kr.lt; clear h2 k2) | (go_at_call 62; (with_reducible refine (text_got b g s v r r2 _ H3.out hs HV2.out).mono ?_); rintro e w6 ⟨rfl, h6, k6⟩; clear c0; have H6 := Lib.hid h6; replace kr := k6.blk kr hrb hrg; replace kc := k6.blk kc hcb hcg; have e0 := kc.cell 0 rfl; have e1 := kc.cell 1 rfl; have e2 := kc.cell 2 rfl; have e3 := kc.cell 3 rfl; have f1 := kc.free 1; have K6 := Lib.hid (K3.out.trans k6); clear h6 k6))
          | (go_at_call 61; (with_reducible refine (taken_s _ _).mono ?_); rintro e wt ⟨rfl, rfl⟩)
          | (go_at_call 65; obtain ⟨u2, hu2, kc, gu2, hz2⟩ := new1 w2 55 #[.string k, .string ⟨#[]⟩, .int .i64 0, .int .i64 0]; clear hz2; rw [← hu2]; (with_reducible refine (isLong_any b g s r u2 (H2.out.keep0 gu2) hs).mono ?_); rw [HB.out]; rintro e w3 ⟨rfl, g3⟩; clear hu2; replace kc := kc.keep0 g3; replace g3 := gb_trans gu2 g3; have H3 := Lib.hid (H2.out.keep0 g3); have c0 := H3.out.c0; replace kr := kr.keep0 g3; have K3 := Lib.hid (K2.out.trans (Kq.of0 g3)); clear gu2 g3)
          | (go_at_call 63; obtain ⟨u6, hu6⟩ : ∃ u : World, u = w6.setCell ⟨w2.heap.size, 1, none⟩ (.string v) := ⟨_, rfl⟩; rw [← hu6]; have gs6 : w6.grownBy u6 (some w2.heap.size) := (by rw [hu6]; exact gb_set _ _ _ _ _); replace kc : Blk u6 w2.heap.size 55 #[.string k, .string v, .int .i64 0, .int .i64 0] := (by rw [hu6]; exact kc.set 1 _); clear hu6 e0 e1 e2 e3; replace kr := kr.keep gs6 (ne_some (Nat.ne_of_lt hcr)); replace H6 := Lib.hid (H6.out.keep gs6 hcb hcg); replace K6 := Lib.hid (K6.out.step gs6 (Nat.le_of_lt hcr)); clear gs6; have e0 := kc.cell 0 rfl; have e1 := kc.cell 1 rfl; have e2 := kc.cell 2 rfl; have e3 := kc.cell 3 rfl; (with_reducible refine (HK.out _).mono ?_); rintro e wk ⟨rfl, rfl⟩)
          | (go_at_call 43; (with_reducible refine (must_no _ _).mono ?_); rintro e wm ⟨rfl, rfl⟩))
        exact ⟨rfl, _, _, rfl, .inr ⟨_, rfl⟩, H6.out, K6.out⟩
      · have hlb : shortB ⟨k, v, 0, 0⟩ = false := by rw [hk] at hb; simpa using hb
        rw [hk] at HK
        rw [hlb] at HV
        clear ht hh hv hb hk hlb
        go_enter Tryz.func52, Tryz.ntmps52
        go_wp2_with (first
          | (go_at_call 57; rw [← HW.out]; (with_reducible refine (begin_any b g s l _ H0.out).mono ?_); rintro e w1 ⟨rfl, h1, k1⟩; have c0 := h1.c0; have H1 := Lib.hid h1; replace kr := k1.blk kr hrb hrg; have K1 := Lib.hid (K0.out.trans k1); clear h1 k1)
          | (first | (go_at_call 62; (with_reducible refine (text_got b g s k l r _ H1.out hs HT.out).mono ?_); rintro e w2 ⟨rfl, h2, k2⟩; clear c0; have H2 := Lib.hid h2; replace kr := k2.blk kr hrb hrg; have K2 := Lib.hid (K1.out.trans k2); have hcb : w2.heap.size ≠ b := Nat.ne_of_gt h2.ltb; have hcg : w2.heap.size ≠ g := Nat.ne_of_gt h2.ltg; have hcr : w.heap.size < w2.heap.size := kr.lt; clear h2 k2) | (go_at_call 62; (with_reducible refine (text_got b g s v r r2 _ H3.out hs HV2.out).mono ?_); rintro e w6 ⟨rfl, h6, k6⟩; clear c0; have H6 := Lib.hid h6; replace kr := k6.blk kr hrb hrg; replace kc := k6.blk kc hcb hcg; have e0 := kc.cell 0 rfl; have e1 := kc.cell 1 rfl; have e2 := kc.cell 2 rfl; have e3 := kc.cell 3 rfl; have f1 := kc.free 1; have K6 := Lib.hid (K3.out.trans k6); clear h6 k6))
          | (go_at_call 61; (with_reducible refine (taken_s _ _).mono ?_); rintro e wt ⟨rfl, rfl⟩)
          | (go_at_call 65; obtain ⟨u2, hu2, kc, gu2, hz2⟩ := new1 w2 55 #[.string k, .string ⟨#[]⟩, .int .i64 0, .int .i64 0]; clear hz2; rw [← hu2]; (with_reducible refine (isLong_any b g s r u2 (H2.out.keep0 gu2) hs).mono ?_); rw [HB.out]; rintro e w3 ⟨rfl, g3⟩; clear hu2; replace kc := kc.keep0 g3; replace g3 := gb_trans gu2 g3; have H3 := Lib.hid (H2.out.keep0 g3); have c0 := H3.out.c0; replace kr := kr.keep0 g3; have K3 := Lib.hid (K2.out.trans (Kq.of0 g3)); clear gu2 g3)
          | (go_at_call 63; obtain ⟨u6, hu6⟩ : ∃ u : World, u = w6.setCell ⟨w2.heap.size, 1, none⟩ (.string v) := ⟨_, rfl⟩; rw [← hu6]; have gs6 : w6.grownBy u6 (some w2.heap.size) := (by rw [hu6]; exact gb_set _ _ _ _ _); replace kc : Blk u6 w2.heap.size 55 #[.string k, .string v, .int .i64 0, .int .i64 0] := (by rw [hu6]; exact kc.set 1 _); clear hu6 e0 e1 e2 e3; replace kr := kr.keep gs6 (ne_some (Nat.ne_of_lt hcr)); replace H6 := Lib.hid (H6.out.keep gs6 hcb hcg); replace K6 := Lib.hid (K6.out.step gs6 (Nat.le_of_lt hcr)); clear gs6; have e0 := kc.cell 0 rfl; have e1 := kc.cell 1 rfl; have e2 := kc.cell 2 rfl; have e3 := kc.cell 3 rfl; (with_reducible refine (HK.out _).mono ?_); rintro e wk ⟨rfl, rfl⟩)
          | (go_at_call 64; (with_reducible refine (HV.out _).mono ?_); rintro e w8 ⟨rfl, g8⟩; clear e0 e1 e2 e3; replace kc := kc.keep0 g8; replace kr := kr.keep0 g8; have H8 := Lib.hid (H6.out.keep0 g8); have K8 := Lib.hid (K6.out.trans (Kq.of0 g8)); have e0 := kc.cell 0 rfl; have e1 := kc.cell 1 rfl; have e2 := kc.cell 2 rfl; have e3 := kc.cell 3 rfl; clear g8)
          | (go_at_call 43; (with_reducible refine (must_no _ _).mono ?_); rintro e wm ⟨rfl, rfl⟩))
        exact ⟨rfl, _, _, rfl, .inr ⟨_, rfl⟩, H8.out, K8.out⟩
end Go.Proofs.YthhimhjegodklaaGreat.N11

