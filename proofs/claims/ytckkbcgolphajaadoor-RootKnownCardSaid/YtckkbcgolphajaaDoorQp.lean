/-
  What the document's own Pick and Next answer, over this seat's translation; conditions: of Next the root's numbers fit.
-/
import Derived.Test.YtckkbcgolphajaaDoorQg
namespace Go.Proofs.YtckkbcgolphajaaDoor
open Go.RowKit

theorem get_parts (l : List UInt8) : ∃ x n, getF l = (x, n) ∧ x.cs.length = 8 ∧ x.e < 18446744073709551616 ∧ (n = 0 ∨ n = 5 ∨ n = 9) := by
  rcases get_cases l with h | h | h
  · obtain ⟨_, _, h3, h4⟩ := get_ok l h
    exact ⟨_, 0, Prod.ext rfl h, h3, h4, Or.inl rfl⟩
  · exact ⟨_, _, h, rfl, by decide, Or.inr (Or.inl rfl)⟩
  · exact ⟨_, _, h.1, rfl, by decide, Or.inr (Or.inr rfl)⟩
/-- A root and two numbers. -/
def PickGot (w : World) (p : Rt × Int × Nat) (e : Ending) (w' : World) : Prop := e = .returned (.tuple #[RV p.1, .int .i64 p.2.1, .int .i64 (p.2.2 : Nat)]) ∧ w.grownBy w' none
theorem results_ctt {fn : Func} {p u v : Tmp} (h : fn.results = #[.cell p 25, .tmp u, .tmp v]) (tmps : Array Value) (w : World) (b : Nat) (r : Rt)
    (hp : tmps.getD p undef = .pointer (some ⟨b, 0, none⟩)) (hb : RB w b r) (hr : r.cs.length = 8) :
    (results fn tmps).run Tryd.prog w = .ok (.tuple #[RV r, tmps.getD u undef, tmps.getD v undef]) w := by
  have hp' : tmps[p]?.getD undef = .pointer (some ⟨b, 0, none⟩) := by simpa using hp
  simp [results, h, hp', asAddr, hb.load hr]
set_option maxRecDepth 100000 in
set_option maxHeartbeats 2000000 in
theorem pick_00a (a b : ByteArray) (x y : Rt) (w : World) (ha : getF a.data.toList = (x, 0)) (hb : getF b.data.toList = (y, 0)) (hlx : x.cs.length = 8) (hly : y.cs.length = 8) (hle : (y.e : Int) ≤ (x.e : Int)) :
    Calls Tryd.prog 19 #[.string a, .string b] w (PickGot w (x, 0, 0)) := by
  have HA := Lib.hid (fun W => refGet_any a W)
  have HB := Lib.hid (fun W => refGet_any b W)
  rw [ha] at HA
  rw [hb] at HB
  have HIx := Lib.hid (root_info x hlx)
  have HIy := Lib.hid (root_info y hly)
  have HOx := Lib.hid (root_one x)
  have HOy := Lib.hid (root_one y)
  have HSx := Lib.hid (show 10 = (rootC x).toArray.size by rw [List.size_toArray, rootC_length x hlx])
  have HSy := Lib.hid (show 10 = (rootC y).toArray.size by rw [List.size_toArray, rootC_length y hly])
  unfold RootGot RV at HA HB
  obtain ⟨Cx, hCx⟩ : ∃ C, (rootC x).toArray = C := ⟨_, rfl⟩
  obtain ⟨Cy, hCy⟩ : ∃ C, (rootC y).toArray = C := ⟨_, rfl⟩
  simp only [hCx] at HA HIx HOx HSx
  simp only [hCy] at HB HIy HOy HSy
  have HCx := Lib.hid hCx
  have HCy := Lib.hid hCy
  clear ha hb hCx hCy
  go_enter Tryd.func19, Tryd.ntmps19
  go_wp2_with (first
    | (go_at_call 15; (with_reducible refine (HA.out _).mono ?_); rintro e w1 ⟨rfl, g1⟩; obtain ⟨rz, gz⟩ := new_zero g1; clear g1)
    | (refine wpList_store_row rfl 25 (.tmp 7) (.tmp 14) rfl w1.heap.size Cx rfl rfl 25 _ (heap_alloc_new _ _) HIx.out HSx.out HOx.out ?_; rw [World.setRow_alloc_new]; have rx : RB (w1.alloc (.cells Cx 25)) w1.heap.size x := (by rw [← HCx.out]; exact Blk.mk w1 _ _); have rz2 := RB.keep0 rz (gb_alloc w1 (.cells Cx 25) none); have gz2 := gb_trans gz (gb_alloc w1 (.cells Cx 25) none); generalize w1.alloc (.cells Cx 25) = W1 at rx rz2 gz2 ⊢)
    | (go_at_call 15; (with_reducible refine (HB.out _).mono ?_); rintro e w2 ⟨rfl, g2⟩; have rx3 := rx.keep0 g2; have rz3 := rz2.keep0 g2; have gz3 := gb_trans gz2 g2; clear rx rz2 gz2 rz gz g2)
    | (refine wpList_store_row rfl 25 (.tmp 9) (.tmp 19) rfl w2.heap.size Cy rfl rfl 25 _ (heap_alloc_new _ _) HIy.out HSy.out HOy.out ?_; rw [World.setRow_alloc_new]; have ry : RB (w2.alloc (.cells Cy 25)) w2.heap.size y := (by rw [← HCy.out]; exact Blk.mk w2 _ _); have rx4 := rx3.keep0 (gb_alloc w2 (.cells Cy 25) none); have rz4 := rz3.keep0 (gb_alloc w2 (.cells Cy 25) none); have gz4 := gb_trans gz3 (gb_alloc w2 (.cells Cy 25) none); generalize w2.alloc (.cells Cy 25) = W2 at ry rx4 rz4 gz4 ⊢; have cx := rx4.epoch; have cy := ry.epoch)
    | (refine wpList_load_row rfl 25 (.tmp 7) rfl w1.heap.size rfl 25 Cx (0, 0) _ (by rw [← HCx.out]; exact rx4) Tryd.underlying25 rfl HIx.out ?_)
    | (refine wpList_store_row rfl 25 (.tmp 4) (.tmp 34) rfl w.heap.size Cx rfl rfl 25 _ rz4 HIx.out HSx.out HOx.out ?_)
    | fail)
  have hset := set_root rz4 x
  rw [HCx.out] at hset
  refine bodyPost_ret (results_ctt rfl _ _ _ x rfl hset hlx) rfl ⟨rfl, gb_step gz4 (gb_setRow _ _ _) (Nat.le_refl _)⟩
set_option maxRecDepth 100000 in
set_option maxHeartbeats 2000000 in
theorem pick_00b (a b : ByteArray) (x y : Rt) (w : World) (ha : getF a.data.toList = (x, 0)) (hb : getF b.data.toList = (y, 0)) (hlx : x.cs.length = 8) (hly : y.cs.length = 8) (hle : ¬ (y.e : Int) ≤ (x.e : Int)) :
    Calls Tryd.prog 19 #[.string a, .string b] w (PickGot w (y, 1, 0)) := by
  have HA := Lib.hid (fun W => refGet_any a W)
  have HB := Lib.hid (fun W => refGet_any b W)
  rw [ha] at HA
  rw [hb] at HB
  have HIx := Lib.hid (root_info x hlx)
  have HIy := Lib.hid (root_info y hly)
  have HOx := Lib.hid (root_one x)
  have HOy := Lib.hid (root_one y)
  have HSx := Lib.hid (show 10 = (rootC x).toArray.size by rw [List.size_toArray, rootC_length x hlx])
  have HSy := Lib.hid (show 10 = (rootC y).toArray.size by rw [List.size_toArray, rootC_length y hly])
  unfold RootGot RV at HA HB
  obtain ⟨Cx, hCx⟩ : ∃ C, (rootC x).toArray = C := ⟨_, rfl⟩
  obtain ⟨Cy, hCy⟩ : ∃ C, (rootC y).toArray = C := ⟨_, rfl⟩
  simp only [hCx] at HA HIx HOx HSx
  simp only [hCy] at HB HIy HOy HSy
  have HCx := Lib.hid hCx
  have HCy := Lib.hid hCy
  clear ha hb hCx hCy
  go_enter Tryd.func19, Tryd.ntmps19
  go_wp2_with (first
    | (go_at_call 15; (with_reducible refine (HA.out _).mono ?_); rintro e w1 ⟨rfl, g1⟩; obtain ⟨rz, gz⟩ := new_zero g1; clear g1)
    | (refine wpList_store_row rfl 25 (.tmp 7) (.tmp 14) rfl w1.heap.size Cx rfl rfl 25 _ (heap_alloc_new _ _) HIx.out HSx.out HOx.out ?_; rw [World.setRow_alloc_new]; have rx : RB (w1.alloc (.cells Cx 25)) w1.heap.size x := (by rw [← HCx.out]; exact Blk.mk w1 _ _); have rz2 := RB.keep0 rz (gb_alloc w1 (.cells Cx 25) none); have gz2 := gb_trans gz (gb_alloc w1 (.cells Cx 25) none); generalize w1.alloc (.cells Cx 25) = W1 at rx rz2 gz2 ⊢)
    | (go_at_call 15; (with_reducible refine (HB.out _).mono ?_); rintro e w2 ⟨rfl, g2⟩; have rx3 := rx.keep0 g2; have rz3 := rz2.keep0 g2; have gz3 := gb_trans gz2 g2; clear rx rz2 gz2 rz gz g2)
    | (refine wpList_store_row rfl 25 (.tmp 9) (.tmp 19) rfl w2.heap.size Cy rfl rfl 25 _ (heap_alloc_new _ _) HIy.out HSy.out HOy.out ?_; rw [World.setRow_alloc_new]; have ry : RB (w2.alloc (.cells Cy 25)) w2.heap.size y := (by rw [← HCy.out]; exact Blk.mk w2 _ _); have rx4 := rx3.keep0 (gb_alloc w2 (.cells Cy 25) none); have rz4 := rz3.keep0 (gb_alloc w2 (.cells Cy 25) none); have gz4 := gb_trans gz3 (gb_alloc w2 (.cells Cy 25) none); generalize w2.alloc (.cells Cy 25) = W2 at ry rx4 rz4 gz4 ⊢; have cx := rx4.epoch; have cy := ry.epoch)
    | (refine wpList_load_row rfl 25 (.tmp 9) rfl w2.heap.size rfl 25 Cy (0, 0) _ (by rw [← HCy.out]; exact ry) Tryd.underlying25 rfl HIy.out ?_)
    | (refine wpList_store_row rfl 25 (.tmp 4) (.tmp 37) rfl w.heap.size Cy rfl rfl 25 _ rz4 HIy.out HSy.out HOy.out ?_)
    | fail)
  have hset := set_root rz4 y
  rw [HCy.out] at hset
  refine bodyPost_ret (results_ctt rfl _ _ _ y rfl hset hly) rfl ⟨rfl, gb_step gz4 (gb_setRow _ _ _) (Nat.le_refl _)⟩
set_option maxRecDepth 100000 in
set_option maxHeartbeats 2000000 in
theorem pick_05 (a b : ByteArray) (x y : Rt) (w : World) (ha : getF a.data.toList = (x, 0)) (hb : getF b.data.toList = (y, 5)) (hlx : x.cs.length = 8) (hly : y.cs.length = 8) :
    Calls Tryd.prog 19 #[.string a, .string b] w (PickGot w (x, 0, 0)) := by
  have HA := Lib.hid (fun W => refGet_any a W)
  have HB := Lib.hid (fun W => refGet_any b W)
  rw [ha] at HA
  rw [hb] at HB
  have HIx := Lib.hid (root_info x hlx)
  have HIy := Lib.hid (root_info y hly)
  have HOx := Lib.hid (root_one x)
  have HOy := Lib.hid (root_one y)
  have HSx := Lib.hid (show 10 = (rootC x).toArray.size by rw [List.size_toArray, rootC_length x hlx])
  have HSy := Lib.hid (show 10 = (rootC y).toArray.size by rw [List.size_toArray, rootC_length y hly])
  unfold RootGot RV at HA HB
  obtain ⟨Cx, hCx⟩ : ∃ C, (rootC x).toArray = C := ⟨_, rfl⟩
  obtain ⟨Cy, hCy⟩ : ∃ C, (rootC y).toArray = C := ⟨_, rfl⟩
  simp only [hCx] at HA HIx HOx HSx
  simp only [hCy] at HB HIy HOy HSy
  have HCx := Lib.hid hCx
  have HCy := Lib.hid hCy
  clear ha hb hCx hCy
  go_enter Tryd.func19, Tryd.ntmps19
  go_wp2_with (first
    | (go_at_call 15; (with_reducible refine (HA.out _).mono ?_); rintro e w1 ⟨rfl, g1⟩; obtain ⟨rz, gz⟩ := new_zero g1; clear g1)
    | (refine wpList_store_row rfl 25 (.tmp 7) (.tmp 14) rfl w1.heap.size Cx rfl rfl 25 _ (heap_alloc_new _ _) HIx.out HSx.out HOx.out ?_; rw [World.setRow_alloc_new]; have rx : RB (w1.alloc (.cells Cx 25)) w1.heap.size x := (by rw [← HCx.out]; exact Blk.mk w1 _ _); have rz2 := RB.keep0 rz (gb_alloc w1 (.cells Cx 25) none); have gz2 := gb_trans gz (gb_alloc w1 (.cells Cx 25) none); generalize w1.alloc (.cells Cx 25) = W1 at rx rz2 gz2 ⊢)
    | (go_at_call 15; (with_reducible refine (HB.out _).mono ?_); rintro e w2 ⟨rfl, g2⟩; have rx3 := rx.keep0 g2; have rz3 := rz2.keep0 g2; have gz3 := gb_trans gz2 g2; clear rx rz2 gz2 rz gz g2)
    | (refine wpList_store_row rfl 25 (.tmp 9) (.tmp 19) rfl w2.heap.size Cy rfl rfl 25 _ (heap_alloc_new _ _) HIy.out HSy.out HOy.out ?_; rw [World.setRow_alloc_new]; have ry : RB (w2.alloc (.cells Cy 25)) w2.heap.size y := (by rw [← HCy.out]; exact Blk.mk w2 _ _); have rx4 := rx3.keep0 (gb_alloc w2 (.cells Cy 25) none); have rz4 := rz3.keep0 (gb_alloc w2 (.cells Cy 25) none); have gz4 := gb_trans gz3 (gb_alloc w2 (.cells Cy 25) none); generalize w2.alloc (.cells Cy 25) = W2 at ry rx4 rz4 gz4 ⊢; have cx := rx4.epoch; have cy := ry.epoch)
    | (refine wpList_load_row rfl 25 (.tmp 7) rfl w1.heap.size rfl 25 Cx (0, 0) _ (by rw [← HCx.out]; exact rx4) Tryd.underlying25 rfl HIx.out ?_)
    | (refine wpList_store_row rfl 25 (.tmp 4) (.tmp 34) rfl w.heap.size Cx rfl rfl 25 _ rz4 HIx.out HSx.out HOx.out ?_)
    | fail)
  have hset := set_root rz4 x
  rw [HCx.out] at hset
  refine bodyPost_ret (results_ctt rfl _ _ _ x rfl hset hlx) rfl ⟨rfl, gb_step gz4 (gb_setRow _ _ _) (Nat.le_refl _)⟩
set_option maxRecDepth 100000 in
set_option maxHeartbeats 2000000 in
theorem pick_09 (a b : ByteArray) (x y : Rt) (w : World) (ha : getF a.data.toList = (x, 0)) (hb : getF b.data.toList = (y, 9)) (hlx : x.cs.length = 8) (hly : y.cs.length = 8) :
    Calls Tryd.prog 19 #[.string a, .string b] w (PickGot w (x, 0, 0)) := by
  have HA := Lib.hid (fun W => refGet_any a W)
  have HB := Lib.hid (fun W => refGet_any b W)
  rw [ha] at HA
  rw [hb] at HB
  have HIx := Lib.hid (root_info x hlx)
  have HIy := Lib.hid (root_info y hly)
  have HOx := Lib.hid (root_one x)
  have HOy := Lib.hid (root_one y)
  have HSx := Lib.hid (show 10 = (rootC x).toArray.size by rw [List.size_toArray, rootC_length x hlx])
  have HSy := Lib.hid (show 10 = (rootC y).toArray.size by rw [List.size_toArray, rootC_length y hly])
  unfold RootGot RV at HA HB
  obtain ⟨Cx, hCx⟩ : ∃ C, (rootC x).toArray = C := ⟨_, rfl⟩
  obtain ⟨Cy, hCy⟩ : ∃ C, (rootC y).toArray = C := ⟨_, rfl⟩
  simp only [hCx] at HA HIx HOx HSx
  simp only [hCy] at HB HIy HOy HSy
  have HCx := Lib.hid hCx
  have HCy := Lib.hid hCy
  clear ha hb hCx hCy
  go_enter Tryd.func19, Tryd.ntmps19
  go_wp2_with (first
    | (go_at_call 15; (with_reducible refine (HA.out _).mono ?_); rintro e w1 ⟨rfl, g1⟩; obtain ⟨rz, gz⟩ := new_zero g1; clear g1)
    | (refine wpList_store_row rfl 25 (.tmp 7) (.tmp 14) rfl w1.heap.size Cx rfl rfl 25 _ (heap_alloc_new _ _) HIx.out HSx.out HOx.out ?_; rw [World.setRow_alloc_new]; have rx : RB (w1.alloc (.cells Cx 25)) w1.heap.size x := (by rw [← HCx.out]; exact Blk.mk w1 _ _); have rz2 := RB.keep0 rz (gb_alloc w1 (.cells Cx 25) none); have gz2 := gb_trans gz (gb_alloc w1 (.cells Cx 25) none); generalize w1.alloc (.cells Cx 25) = W1 at rx rz2 gz2 ⊢)
    | (go_at_call 15; (with_reducible refine (HB.out _).mono ?_); rintro e w2 ⟨rfl, g2⟩; have rx3 := rx.keep0 g2; have rz3 := rz2.keep0 g2; have gz3 := gb_trans gz2 g2; clear rx rz2 gz2 rz gz g2)
    | (refine wpList_store_row rfl 25 (.tmp 9) (.tmp 19) rfl w2.heap.size Cy rfl rfl 25 _ (heap_alloc_new _ _) HIy.out HSy.out HOy.out ?_; rw [World.setRow_alloc_new]; have ry : RB (w2.alloc (.cells Cy 25)) w2.heap.size y := (by rw [← HCy.out]; exact Blk.mk w2 _ _); have rx4 := rx3.keep0 (gb_alloc w2 (.cells Cy 25) none); have rz4 := rz3.keep0 (gb_alloc w2 (.cells Cy 25) none); have gz4 := gb_trans gz3 (gb_alloc w2 (.cells Cy 25) none); generalize w2.alloc (.cells Cy 25) = W2 at ry rx4 rz4 gz4 ⊢; have cx := rx4.epoch; have cy := ry.epoch)
    | (refine wpList_load_row rfl 25 (.tmp 7) rfl w1.heap.size rfl 25 Cx (0, 0) _ (by rw [← HCx.out]; exact rx4) Tryd.underlying25 rfl HIx.out ?_)
    | (refine wpList_store_row rfl 25 (.tmp 4) (.tmp 34) rfl w.heap.size Cx rfl rfl 25 _ rz4 HIx.out HSx.out HOx.out ?_)
    | fail)
  have hset := set_root rz4 x
  rw [HCx.out] at hset
  refine bodyPost_ret (results_ctt rfl _ _ _ x rfl hset hlx) rfl ⟨rfl, gb_step gz4 (gb_setRow _ _ _) (Nat.le_refl _)⟩
set_option maxRecDepth 100000 in
set_option maxHeartbeats 2000000 in
theorem pick_50 (a b : ByteArray) (x y : Rt) (w : World) (ha : getF a.data.toList = (x, 5)) (hb : getF b.data.toList = (y, 0)) (hlx : x.cs.length = 8) (hly : y.cs.length = 8) :
    Calls Tryd.prog 19 #[.string a, .string b] w (PickGot w (y, 1, 0)) := by
  have HA := Lib.hid (fun W => refGet_any a W)
  have HB := Lib.hid (fun W => refGet_any b W)
  rw [ha] at HA
  rw [hb] at HB
  have HIx := Lib.hid (root_info x hlx)
  have HIy := Lib.hid (root_info y hly)
  have HOx := Lib.hid (root_one x)
  have HOy := Lib.hid (root_one y)
  have HSx := Lib.hid (show 10 = (rootC x).toArray.size by rw [List.size_toArray, rootC_length x hlx])
  have HSy := Lib.hid (show 10 = (rootC y).toArray.size by rw [List.size_toArray, rootC_length y hly])
  unfold RootGot RV at HA HB
  obtain ⟨Cx, hCx⟩ : ∃ C, (rootC x).toArray = C := ⟨_, rfl⟩
  obtain ⟨Cy, hCy⟩ : ∃ C, (rootC y).toArray = C := ⟨_, rfl⟩
  simp only [hCx] at HA HIx HOx HSx
  simp only [hCy] at HB HIy HOy HSy
  have HCx := Lib.hid hCx
  have HCy := Lib.hid hCy
  clear ha hb hCx hCy
  go_enter Tryd.func19, Tryd.ntmps19
  go_wp2_with (first
    | (go_at_call 15; (with_reducible refine (HA.out _).mono ?_); rintro e w1 ⟨rfl, g1⟩; obtain ⟨rz, gz⟩ := new_zero g1; clear g1)
    | (refine wpList_store_row rfl 25 (.tmp 7) (.tmp 14) rfl w1.heap.size Cx rfl rfl 25 _ (heap_alloc_new _ _) HIx.out HSx.out HOx.out ?_; rw [World.setRow_alloc_new]; have rx : RB (w1.alloc (.cells Cx 25)) w1.heap.size x := (by rw [← HCx.out]; exact Blk.mk w1 _ _); have rz2 := RB.keep0 rz (gb_alloc w1 (.cells Cx 25) none); have gz2 := gb_trans gz (gb_alloc w1 (.cells Cx 25) none); generalize w1.alloc (.cells Cx 25) = W1 at rx rz2 gz2 ⊢)
    | (go_at_call 15; (with_reducible refine (HB.out _).mono ?_); rintro e w2 ⟨rfl, g2⟩; have rx3 := rx.keep0 g2; have rz3 := rz2.keep0 g2; have gz3 := gb_trans gz2 g2; clear rx rz2 gz2 rz gz g2)
    | (refine wpList_store_row rfl 25 (.tmp 9) (.tmp 19) rfl w2.heap.size Cy rfl rfl 25 _ (heap_alloc_new _ _) HIy.out HSy.out HOy.out ?_; rw [World.setRow_alloc_new]; have ry : RB (w2.alloc (.cells Cy 25)) w2.heap.size y := (by rw [← HCy.out]; exact Blk.mk w2 _ _); have rx4 := rx3.keep0 (gb_alloc w2 (.cells Cy 25) none); have rz4 := rz3.keep0 (gb_alloc w2 (.cells Cy 25) none); have gz4 := gb_trans gz3 (gb_alloc w2 (.cells Cy 25) none); generalize w2.alloc (.cells Cy 25) = W2 at ry rx4 rz4 gz4 ⊢; have cx := rx4.epoch; have cy := ry.epoch)
    | (refine wpList_load_row rfl 25 (.tmp 9) rfl w2.heap.size rfl 25 Cy (0, 0) _ (by rw [← HCy.out]; exact ry) Tryd.underlying25 rfl HIy.out ?_)
    | (refine wpList_store_row rfl 25 (.tmp 4) (.tmp 37) rfl w.heap.size Cy rfl rfl 25 _ rz4 HIy.out HSy.out HOy.out ?_)
    | fail)
  have hset := set_root rz4 y
  rw [HCy.out] at hset
  refine bodyPost_ret (results_ctt rfl _ _ _ y rfl hset hly) rfl ⟨rfl, gb_step gz4 (gb_setRow _ _ _) (Nat.le_refl _)⟩
set_option maxRecDepth 100000 in
set_option maxHeartbeats 2000000 in
theorem pick_90 (a b : ByteArray) (x y : Rt) (w : World) (ha : getF a.data.toList = (x, 9)) (hb : getF b.data.toList = (y, 0)) (hlx : x.cs.length = 8) (hly : y.cs.length = 8) :
    Calls Tryd.prog 19 #[.string a, .string b] w (PickGot w (y, 1, 0)) := by
  have HA := Lib.hid (fun W => refGet_any a W)
  have HB := Lib.hid (fun W => refGet_any b W)
  rw [ha] at HA
  rw [hb] at HB
  have HIx := Lib.hid (root_info x hlx)
  have HIy := Lib.hid (root_info y hly)
  have HOx := Lib.hid (root_one x)
  have HOy := Lib.hid (root_one y)
  have HSx := Lib.hid (show 10 = (rootC x).toArray.size by rw [List.size_toArray, rootC_length x hlx])
  have HSy := Lib.hid (show 10 = (rootC y).toArray.size by rw [List.size_toArray, rootC_length y hly])
  unfold RootGot RV at HA HB
  obtain ⟨Cx, hCx⟩ : ∃ C, (rootC x).toArray = C := ⟨_, rfl⟩
  obtain ⟨Cy, hCy⟩ : ∃ C, (rootC y).toArray = C := ⟨_, rfl⟩
  simp only [hCx] at HA HIx HOx HSx
  simp only [hCy] at HB HIy HOy HSy
  have HCx := Lib.hid hCx
  have HCy := Lib.hid hCy
  clear ha hb hCx hCy
  go_enter Tryd.func19, Tryd.ntmps19
  go_wp2_with (first
    | (go_at_call 15; (with_reducible refine (HA.out _).mono ?_); rintro e w1 ⟨rfl, g1⟩; obtain ⟨rz, gz⟩ := new_zero g1; clear g1)
    | (refine wpList_store_row rfl 25 (.tmp 7) (.tmp 14) rfl w1.heap.size Cx rfl rfl 25 _ (heap_alloc_new _ _) HIx.out HSx.out HOx.out ?_; rw [World.setRow_alloc_new]; have rx : RB (w1.alloc (.cells Cx 25)) w1.heap.size x := (by rw [← HCx.out]; exact Blk.mk w1 _ _); have rz2 := RB.keep0 rz (gb_alloc w1 (.cells Cx 25) none); have gz2 := gb_trans gz (gb_alloc w1 (.cells Cx 25) none); generalize w1.alloc (.cells Cx 25) = W1 at rx rz2 gz2 ⊢)
    | (go_at_call 15; (with_reducible refine (HB.out _).mono ?_); rintro e w2 ⟨rfl, g2⟩; have rx3 := rx.keep0 g2; have rz3 := rz2.keep0 g2; have gz3 := gb_trans gz2 g2; clear rx rz2 gz2 rz gz g2)
    | (refine wpList_store_row rfl 25 (.tmp 9) (.tmp 19) rfl w2.heap.size Cy rfl rfl 25 _ (heap_alloc_new _ _) HIy.out HSy.out HOy.out ?_; rw [World.setRow_alloc_new]; have ry : RB (w2.alloc (.cells Cy 25)) w2.heap.size y := (by rw [← HCy.out]; exact Blk.mk w2 _ _); have rx4 := rx3.keep0 (gb_alloc w2 (.cells Cy 25) none); have rz4 := rz3.keep0 (gb_alloc w2 (.cells Cy 25) none); have gz4 := gb_trans gz3 (gb_alloc w2 (.cells Cy 25) none); generalize w2.alloc (.cells Cy 25) = W2 at ry rx4 rz4 gz4 ⊢; have cx := rx4.epoch; have cy := ry.epoch)
    | (refine wpList_load_row rfl 25 (.tmp 9) rfl w2.heap.size rfl 25 Cy (0, 0) _ (by rw [← HCy.out]; exact ry) Tryd.underlying25 rfl HIy.out ?_)
    | (refine wpList_store_row rfl 25 (.tmp 4) (.tmp 37) rfl w.heap.size Cy rfl rfl 25 _ rz4 HIy.out HSy.out HOy.out ?_)
    | fail)
  have hset := set_root rz4 y
  rw [HCy.out] at hset
  refine bodyPost_ret (results_ctt rfl _ _ _ y rfl hset hly) rfl ⟨rfl, gb_step gz4 (gb_setRow _ _ _) (Nat.le_refl _)⟩
set_option maxRecDepth 100000 in
set_option maxHeartbeats 2000000 in
theorem pick_55 (a b : ByteArray) (x y : Rt) (w : World) (ha : getF a.data.toList = (x, 5)) (hb : getF b.data.toList = (y, 5)) (hlx : x.cs.length = 8) (hly : y.cs.length = 8) :
    Calls Tryd.prog 19 #[.string a, .string b] w (PickGot w (zeroR, -1, 29)) := by
  have HA := Lib.hid (fun W => refGet_any a W)
  have HB := Lib.hid (fun W => refGet_any b W)
  rw [ha] at HA
  rw [hb] at HB
  have HIx := Lib.hid (root_info x hlx)
  have HIy := Lib.hid (root_info y hly)
  have HOx := Lib.hid (root_one x)
  have HOy := Lib.hid (root_one y)
  have HSx := Lib.hid (show 10 = (rootC x).toArray.size by rw [List.size_toArray, rootC_length x hlx])
  have HSy := Lib.hid (show 10 = (rootC y).toArray.size by rw [List.size_toArray, rootC_length y hly])
  unfold RootGot RV at HA HB
  obtain ⟨Cx, hCx⟩ : ∃ C, (rootC x).toArray = C := ⟨_, rfl⟩
  obtain ⟨Cy, hCy⟩ : ∃ C, (rootC y).toArray = C := ⟨_, rfl⟩
  simp only [hCx] at HA HIx HOx HSx
  simp only [hCy] at HB HIy HOy HSy
  have HCx := Lib.hid hCx
  have HCy := Lib.hid hCy
  clear ha hb hCx hCy
  go_enter Tryd.func19, Tryd.ntmps19
  go_wp2_with (first
    | (go_at_call 15; (with_reducible refine (HA.out _).mono ?_); rintro e w1 ⟨rfl, g1⟩; obtain ⟨rz, gz⟩ := new_zero g1; clear g1)
    | (refine wpList_store_row rfl 25 (.tmp 7) (.tmp 14) rfl w1.heap.size Cx rfl rfl 25 _ (heap_alloc_new _ _) HIx.out HSx.out HOx.out ?_; rw [World.setRow_alloc_new]; have rx : RB (w1.alloc (.cells Cx 25)) w1.heap.size x := (by rw [← HCx.out]; exact Blk.mk w1 _ _); have rz2 := RB.keep0 rz (gb_alloc w1 (.cells Cx 25) none); have gz2 := gb_trans gz (gb_alloc w1 (.cells Cx 25) none); generalize w1.alloc (.cells Cx 25) = W1 at rx rz2 gz2 ⊢)
    | (go_at_call 15; (with_reducible refine (HB.out _).mono ?_); rintro e w2 ⟨rfl, g2⟩; have rx3 := rx.keep0 g2; have rz3 := rz2.keep0 g2; have gz3 := gb_trans gz2 g2; clear rx rz2 gz2 rz gz g2)
    | (refine wpList_store_row rfl 25 (.tmp 9) (.tmp 19) rfl w2.heap.size Cy rfl rfl 25 _ (heap_alloc_new _ _) HIy.out HSy.out HOy.out ?_; rw [World.setRow_alloc_new]; have ry : RB (w2.alloc (.cells Cy 25)) w2.heap.size y := (by rw [← HCy.out]; exact Blk.mk w2 _ _); have rx4 := rx3.keep0 (gb_alloc w2 (.cells Cy 25) none); have rz4 := rz3.keep0 (gb_alloc w2 (.cells Cy 25) none); have gz4 := gb_trans gz3 (gb_alloc w2 (.cells Cy 25) none); generalize w2.alloc (.cells Cy 25) = W2 at ry rx4 rz4 gz4 ⊢; have cx := rx4.epoch; have cy := ry.epoch)
    | (refine wpList_store_row rfl 25 (.tmp 4) (.tmp 45) rfl w.heap.size (rootC zeroR).toArray rfl rfl 25 _ rz4 (root_info _ zero_len) rfl (root_one _) ?_)
    | fail)
  refine bodyPost_ret (results_ctt rfl _ _ _ zeroR rfl (set_root rz4 _) zero_len) rfl ⟨rfl, gb_step gz4 (gb_setRow _ _ _) (Nat.le_refl _)⟩
set_option maxRecDepth 100000 in
set_option maxHeartbeats 2000000 in
theorem pick_59 (a b : ByteArray) (x y : Rt) (w : World) (ha : getF a.data.toList = (x, 5)) (hb : getF b.data.toList = (y, 9)) (hlx : x.cs.length = 8) (hly : y.cs.length = 8) :
    Calls Tryd.prog 19 #[.string a, .string b] w (PickGot w (zeroR, -1, 9)) := by
  have HA := Lib.hid (fun W => refGet_any a W)
  have HB := Lib.hid (fun W => refGet_any b W)
  rw [ha] at HA
  rw [hb] at HB
  have HIx := Lib.hid (root_info x hlx)
  have HIy := Lib.hid (root_info y hly)
  have HOx := Lib.hid (root_one x)
  have HOy := Lib.hid (root_one y)
  have HSx := Lib.hid (show 10 = (rootC x).toArray.size by rw [List.size_toArray, rootC_length x hlx])
  have HSy := Lib.hid (show 10 = (rootC y).toArray.size by rw [List.size_toArray, rootC_length y hly])
  unfold RootGot RV at HA HB
  obtain ⟨Cx, hCx⟩ : ∃ C, (rootC x).toArray = C := ⟨_, rfl⟩
  obtain ⟨Cy, hCy⟩ : ∃ C, (rootC y).toArray = C := ⟨_, rfl⟩
  simp only [hCx] at HA HIx HOx HSx
  simp only [hCy] at HB HIy HOy HSy
  have HCx := Lib.hid hCx
  have HCy := Lib.hid hCy
  clear ha hb hCx hCy
  go_enter Tryd.func19, Tryd.ntmps19
  go_wp2_with (first
    | (go_at_call 15; (with_reducible refine (HA.out _).mono ?_); rintro e w1 ⟨rfl, g1⟩; obtain ⟨rz, gz⟩ := new_zero g1; clear g1)
    | (refine wpList_store_row rfl 25 (.tmp 7) (.tmp 14) rfl w1.heap.size Cx rfl rfl 25 _ (heap_alloc_new _ _) HIx.out HSx.out HOx.out ?_; rw [World.setRow_alloc_new]; have rx : RB (w1.alloc (.cells Cx 25)) w1.heap.size x := (by rw [← HCx.out]; exact Blk.mk w1 _ _); have rz2 := RB.keep0 rz (gb_alloc w1 (.cells Cx 25) none); have gz2 := gb_trans gz (gb_alloc w1 (.cells Cx 25) none); generalize w1.alloc (.cells Cx 25) = W1 at rx rz2 gz2 ⊢)
    | (go_at_call 15; (with_reducible refine (HB.out _).mono ?_); rintro e w2 ⟨rfl, g2⟩; have rx3 := rx.keep0 g2; have rz3 := rz2.keep0 g2; have gz3 := gb_trans gz2 g2; clear rx rz2 gz2 rz gz g2)
    | (refine wpList_store_row rfl 25 (.tmp 9) (.tmp 19) rfl w2.heap.size Cy rfl rfl 25 _ (heap_alloc_new _ _) HIy.out HSy.out HOy.out ?_; rw [World.setRow_alloc_new]; have ry : RB (w2.alloc (.cells Cy 25)) w2.heap.size y := (by rw [← HCy.out]; exact Blk.mk w2 _ _); have rx4 := rx3.keep0 (gb_alloc w2 (.cells Cy 25) none); have rz4 := rz3.keep0 (gb_alloc w2 (.cells Cy 25) none); have gz4 := gb_trans gz3 (gb_alloc w2 (.cells Cy 25) none); generalize w2.alloc (.cells Cy 25) = W2 at ry rx4 rz4 gz4 ⊢; have cx := rx4.epoch; have cy := ry.epoch)
    | (refine wpList_store_row rfl 25 (.tmp 4) (.tmp 44) rfl w.heap.size (rootC zeroR).toArray rfl rfl 25 _ rz4 (root_info _ zero_len) rfl (root_one _) ?_)
    | fail)
  refine bodyPost_ret (results_ctt rfl _ _ _ zeroR rfl (set_root rz4 _) zero_len) rfl ⟨rfl, gb_step gz4 (gb_setRow _ _ _) (Nat.le_refl _)⟩
set_option maxRecDepth 100000 in
set_option maxHeartbeats 2000000 in
theorem pick_95 (a b : ByteArray) (x y : Rt) (w : World) (ha : getF a.data.toList = (x, 9)) (hb : getF b.data.toList = (y, 5)) (hlx : x.cs.length = 8) (hly : y.cs.length = 8) :
    Calls Tryd.prog 19 #[.string a, .string b] w (PickGot w (zeroR, -1, 9)) := by
  have HA := Lib.hid (fun W => refGet_any a W)
  have HB := Lib.hid (fun W => refGet_any b W)
  rw [ha] at HA
  rw [hb] at HB
  have HIx := Lib.hid (root_info x hlx)
  have HIy := Lib.hid (root_info y hly)
  have HOx := Lib.hid (root_one x)
  have HOy := Lib.hid (root_one y)
  have HSx := Lib.hid (show 10 = (rootC x).toArray.size by rw [List.size_toArray, rootC_length x hlx])
  have HSy := Lib.hid (show 10 = (rootC y).toArray.size by rw [List.size_toArray, rootC_length y hly])
  unfold RootGot RV at HA HB
  obtain ⟨Cx, hCx⟩ : ∃ C, (rootC x).toArray = C := ⟨_, rfl⟩
  obtain ⟨Cy, hCy⟩ : ∃ C, (rootC y).toArray = C := ⟨_, rfl⟩
  simp only [hCx] at HA HIx HOx HSx
  simp only [hCy] at HB HIy HOy HSy
  have HCx := Lib.hid hCx
  have HCy := Lib.hid hCy
  clear ha hb hCx hCy
  go_enter Tryd.func19, Tryd.ntmps19
  go_wp2_with (first
    | (go_at_call 15; (with_reducible refine (HA.out _).mono ?_); rintro e w1 ⟨rfl, g1⟩; obtain ⟨rz, gz⟩ := new_zero g1; clear g1)
    | (refine wpList_store_row rfl 25 (.tmp 7) (.tmp 14) rfl w1.heap.size Cx rfl rfl 25 _ (heap_alloc_new _ _) HIx.out HSx.out HOx.out ?_; rw [World.setRow_alloc_new]; have rx : RB (w1.alloc (.cells Cx 25)) w1.heap.size x := (by rw [← HCx.out]; exact Blk.mk w1 _ _); have rz2 := RB.keep0 rz (gb_alloc w1 (.cells Cx 25) none); have gz2 := gb_trans gz (gb_alloc w1 (.cells Cx 25) none); generalize w1.alloc (.cells Cx 25) = W1 at rx rz2 gz2 ⊢)
    | (go_at_call 15; (with_reducible refine (HB.out _).mono ?_); rintro e w2 ⟨rfl, g2⟩; have rx3 := rx.keep0 g2; have rz3 := rz2.keep0 g2; have gz3 := gb_trans gz2 g2; clear rx rz2 gz2 rz gz g2)
    | (refine wpList_store_row rfl 25 (.tmp 9) (.tmp 19) rfl w2.heap.size Cy rfl rfl 25 _ (heap_alloc_new _ _) HIy.out HSy.out HOy.out ?_; rw [World.setRow_alloc_new]; have ry : RB (w2.alloc (.cells Cy 25)) w2.heap.size y := (by rw [← HCy.out]; exact Blk.mk w2 _ _); have rx4 := rx3.keep0 (gb_alloc w2 (.cells Cy 25) none); have rz4 := rz3.keep0 (gb_alloc w2 (.cells Cy 25) none); have gz4 := gb_trans gz3 (gb_alloc w2 (.cells Cy 25) none); generalize w2.alloc (.cells Cy 25) = W2 at ry rx4 rz4 gz4 ⊢; have cx := rx4.epoch; have cy := ry.epoch)
    | (refine wpList_store_row rfl 25 (.tmp 4) (.tmp 44) rfl w.heap.size (rootC zeroR).toArray rfl rfl 25 _ rz4 (root_info _ zero_len) rfl (root_one _) ?_)
    | fail)
  refine bodyPost_ret (results_ctt rfl _ _ _ zeroR rfl (set_root rz4 _) zero_len) rfl ⟨rfl, gb_step gz4 (gb_setRow _ _ _) (Nat.le_refl _)⟩
set_option maxRecDepth 100000 in
set_option maxHeartbeats 2000000 in
theorem pick_99 (a b : ByteArray) (x y : Rt) (w : World) (ha : getF a.data.toList = (x, 9)) (hb : getF b.data.toList = (y, 9)) (hlx : x.cs.length = 8) (hly : y.cs.length = 8) :
    Calls Tryd.prog 19 #[.string a, .string b] w (PickGot w (zeroR, -1, 9)) := by
  have HA := Lib.hid (fun W => refGet_any a W)
  have HB := Lib.hid (fun W => refGet_any b W)
  rw [ha] at HA
  rw [hb] at HB
  have HIx := Lib.hid (root_info x hlx)
  have HIy := Lib.hid (root_info y hly)
  have HOx := Lib.hid (root_one x)
  have HOy := Lib.hid (root_one y)
  have HSx := Lib.hid (show 10 = (rootC x).toArray.size by rw [List.size_toArray, rootC_length x hlx])
  have HSy := Lib.hid (show 10 = (rootC y).toArray.size by rw [List.size_toArray, rootC_length y hly])
  unfold RootGot RV at HA HB
  obtain ⟨Cx, hCx⟩ : ∃ C, (rootC x).toArray = C := ⟨_, rfl⟩
  obtain ⟨Cy, hCy⟩ : ∃ C, (rootC y).toArray = C := ⟨_, rfl⟩
  simp only [hCx] at HA HIx HOx HSx
  simp only [hCy] at HB HIy HOy HSy
  have HCx := Lib.hid hCx
  have HCy := Lib.hid hCy
  clear ha hb hCx hCy
  go_enter Tryd.func19, Tryd.ntmps19
  go_wp2_with (first
    | (go_at_call 15; (with_reducible refine (HA.out _).mono ?_); rintro e w1 ⟨rfl, g1⟩; obtain ⟨rz, gz⟩ := new_zero g1; clear g1)
    | (refine wpList_store_row rfl 25 (.tmp 7) (.tmp 14) rfl w1.heap.size Cx rfl rfl 25 _ (heap_alloc_new _ _) HIx.out HSx.out HOx.out ?_; rw [World.setRow_alloc_new]; have rx : RB (w1.alloc (.cells Cx 25)) w1.heap.size x := (by rw [← HCx.out]; exact Blk.mk w1 _ _); have rz2 := RB.keep0 rz (gb_alloc w1 (.cells Cx 25) none); have gz2 := gb_trans gz (gb_alloc w1 (.cells Cx 25) none); generalize w1.alloc (.cells Cx 25) = W1 at rx rz2 gz2 ⊢)
    | (go_at_call 15; (with_reducible refine (HB.out _).mono ?_); rintro e w2 ⟨rfl, g2⟩; have rx3 := rx.keep0 g2; have rz3 := rz2.keep0 g2; have gz3 := gb_trans gz2 g2; clear rx rz2 gz2 rz gz g2)
    | (refine wpList_store_row rfl 25 (.tmp 9) (.tmp 19) rfl w2.heap.size Cy rfl rfl 25 _ (heap_alloc_new _ _) HIy.out HSy.out HOy.out ?_; rw [World.setRow_alloc_new]; have ry : RB (w2.alloc (.cells Cy 25)) w2.heap.size y := (by rw [← HCy.out]; exact Blk.mk w2 _ _); have rx4 := rx3.keep0 (gb_alloc w2 (.cells Cy 25) none); have rz4 := rz3.keep0 (gb_alloc w2 (.cells Cy 25) none); have gz4 := gb_trans gz3 (gb_alloc w2 (.cells Cy 25) none); generalize w2.alloc (.cells Cy 25) = W2 at ry rx4 rz4 gz4 ⊢; have cx := rx4.epoch; have cy := ry.epoch)
    | (refine wpList_store_row rfl 25 (.tmp 4) (.tmp 44) rfl w.heap.size (rootC zeroR).toArray rfl rfl 25 _ rz4 (root_info _ zero_len) rfl (root_one _) ?_)
    | fail)
  refine bodyPost_ret (results_ctt rfl _ _ _ zeroR rfl (set_root rz4 _) zero_len) rfl ⟨rfl, gb_step gz4 (gb_setRow _ _ _) (Nat.le_refl _)⟩
theorem refPick_any (a b : ByteArray) (w : World) : Calls Tryd.prog 19 #[.string a, .string b] w (PickGot w (pickF a.data.toList b.data.toList)) := by
  obtain ⟨x, n, h1, h2, _, h4⟩ := get_parts a.data.toList
  obtain ⟨y, m, k1, k2, _, k4⟩ := get_parts b.data.toList
  rcases h4 with rfl | rfl | rfl <;> rcases k4 with rfl | rfl | rfl
  · by_cases hle : y.e ≤ x.e
    · rw [show pickF a.data.toList b.data.toList = (x, 0, 0) by unfold pickF; rw [h1, k1]; simp [hle]]; exact pick_00a a b x y w h1 k1 h2 k2 (by omega)
    · rw [show pickF a.data.toList b.data.toList = (y, 1, 0) by unfold pickF; rw [h1, k1]; simp [hle]]; exact pick_00b a b x y w h1 k1 h2 k2 (by omega)
  · rw [show pickF a.data.toList b.data.toList = (x, 0, 0) by unfold pickF; rw [h1, k1]; simp]; exact pick_05 a b x y w h1 k1 h2 k2
  · rw [show pickF a.data.toList b.data.toList = (x, 0, 0) by unfold pickF; rw [h1, k1]; simp]; exact pick_09 a b x y w h1 k1 h2 k2
  · rw [show pickF a.data.toList b.data.toList = (y, 1, 0) by unfold pickF; rw [h1, k1]; simp]; exact pick_50 a b x y w h1 k1 h2 k2
  · rw [show pickF a.data.toList b.data.toList = (zeroR, -1, 29) by unfold pickF; rw [h1, k1]; simp]; exact pick_55 a b x y w h1 k1 h2 k2
  · rw [show pickF a.data.toList b.data.toList = (zeroR, -1, 9) by unfold pickF; rw [h1, k1]; simp]; exact pick_59 a b x y w h1 k1 h2 k2
  · rw [show pickF a.data.toList b.data.toList = (y, 1, 0) by unfold pickF; rw [h1, k1]; simp]; exact pick_90 a b x y w h1 k1 h2 k2
  · rw [show pickF a.data.toList b.data.toList = (zeroR, -1, 9) by unfold pickF; rw [h1, k1]; simp]; exact pick_95 a b x y w h1 k1 h2 k2
  · rw [show pickF a.data.toList b.data.toList = (zeroR, -1, 9) by unfold pickF; rw [h1, k1]; simp]; exact pick_99 a b x y w h1 k1 h2 k2
/-- A root and a number. -/
def NextGot (w : World) (r : Rt) (which : Int) (e : Ending) (w' : World) : Prop := e = .returned (.tuple #[RV (nextR r), .int .i64 (nextW which)]) ∧ w.grownBy w' none
theorem next_store {W : World} {b : Nat} {r : Rt} (h : RB W b r) (v : Int) (hv : v = ((r.e + 1) % 18446744073709551616 : Nat)) : RB (W.setCell ⟨b, 0, none⟩ (.int .u64 v)) b (nextR r) := by
  subst hv
  exact Blk.set h 0 _
set_option maxRecDepth 100000 in
set_option maxHeartbeats 2000000 in
theorem refNext_any (r : Rt) (which : Int) (w : World) (hr : Fit r) : Calls Tryd.prog 13 #[RV r, .int .i64 which] w (NextGot w r which) := by
  have hl := hr.1
  have he := hr.2.1
  have HI := Lib.hid (root_info (nextR r) hl)
  have HO := Lib.hid (root_one (nextR r))
  have HS := Lib.hid (show 10 = (rootC (nextR r)).toArray.size by rw [List.size_toArray, rootC_length (nextR r) hl])
  obtain ⟨v, hv⟩ : ∃ v : Int, ((r.e : Int) + 1) % 18446744073709551616 = v := ⟨_, rfl⟩
  have hv1 : IntKind.u64.wrap ((r.e : Int) + 1) = v := by rw [← hv, IntKind.wrap_u64]
  have hv2 : v = ((r.e + 1) % 18446744073709551616 : Nat) := by rw [← hv]; omega
  have k0 : RB (w.alloc (.cells (rootC r).toArray 25)) w.heap.size r := Blk.mk w _ _
  have HL := Lib.hid hl
  unfold RV
  obtain ⟨C, hC⟩ : ∃ C, (rootC r).toArray = C := ⟨_, rfl⟩
  rw [hC] at k0 ⊢
  clear hr hl hC
  obtain ⟨w1, hw1⟩ : ∃ w1, (w.alloc (.cells C 25)).alloc (.cells #[.int .u64 0, .int .i64 0, .int .i64 0, .int .i64 0, .int .i64 0, .int .i64 0, .int .i64 0, .int .i64 0, .int .i64 0, .int .i64 0] 25) = w1 := ⟨_, rfl⟩
  have k1 : RB w1 w.heap.size r := by rw [← hw1]; exact k0.keep0 (gb_alloc _ _ none)
  have z1 : RB w1 (w.heap.size + 1) zeroR := by rw [← hw1, ← World.size_alloc w (.cells C 25)]; exact Blk.mk (w.alloc (.cells C 25)) 25 (rootC zeroR).toArray
  have g1 : w.grownBy w1 none := by rw [← hw1]; exact gb_trans (gb_alloc _ _ none) (gb_alloc _ _ none)
  have c0 := k1.epoch
  have f0 : w1.frozen? ⟨w.heap.size, 0, none⟩ = false := Blk.free k1 0
  clear k0
  have n1 := next_store k1 v hv2
  have z2 : RB (w1.setCell ⟨w.heap.size, 0, none⟩ (.int .u64 v)) (w.heap.size + 1) zeroR := Blk.keep z1 (gb_set _ _ _ _ _) (ne_some (by omega))
  have g2 : w.grownBy (w1.setCell ⟨w.heap.size, 0, none⟩ (.int .u64 v)) none := gb_step g1 (gb_set _ _ _ _ _) (Nat.le_refl _)
  have HR := Lib.hid (And.intro n1 (And.intro z2 g2))
  obtain ⟨D, hD⟩ : ∃ D, (rootC (nextR r)).toArray = D := ⟨_, rfl⟩
  have HD := Lib.hid hD
  rw [hD] at HI HO HS
  have hn : (w1.setCell ⟨w.heap.size, 0, none⟩ (.int .u64 v)).heap[w.heap.size]? = some (.cells D 25 (0, 0)) := by rw [← hD]; exact n1
  have hz : (w1.setCell ⟨w.heap.size, 0, none⟩ (.int .u64 v)).heap[w.heap.size + 1]? = some (.cells (rootC zeroR).toArray 25 (0, 0)) := z2
  obtain ⟨W2, hW⟩ : ∃ W2, w1.setCell ⟨w.heap.size, 0, none⟩ (.int .u64 v) = W2 := ⟨_, rfl⟩
  rw [hW] at hn hz HR
  clear n1 z2 g2 k1 z1 g1 hD hv2
  have hset := fun (h : RB W2 (w.heap.size + 1) zeroR) => set_root h (nextR r)
  rw [HD.out] at hset
  by_cases h1 : which = 1
  · have HW := Lib.hid (show nextW which = 0 from if_pos (Or.inl h1))
    go_enter Tryd.func13, Tryd.ntmps13
    go_wp2_with (first
      | (refine wpList_load_row rfl 25 (.tmp 2) rfl w.heap.size rfl 25 D (0, 0) _ hn Tryd.underlying25 rfl HI.out ?_)
      | (refine wpList_store_row rfl 25 (.tmp 4) (.tmp 16) rfl (w.heap.size + 1) D rfl rfl 25 _ hz HI.out HS.out HO.out ?_)
      | fail)
    refine bodyPost_ret (results_ct rfl _ _ _ (nextR r) rfl (hset HR.out.2.1) HL.out) rfl ⟨by rw [HW.out]; rfl, gb_step HR.out.2.2 (gb_setRow _ _ _) (by omega)⟩
  by_cases h2 : which = -1
  · have HW := Lib.hid (show nextW which = 0 from if_pos (Or.inr h2))
    go_enter Tryd.func13, Tryd.ntmps13
    go_wp2_with (first
      | (refine wpList_load_row rfl 25 (.tmp 2) rfl w.heap.size rfl 25 D (0, 0) _ hn Tryd.underlying25 rfl HI.out ?_)
      | (refine wpList_store_row rfl 25 (.tmp 4) (.tmp 16) rfl (w.heap.size + 1) D rfl rfl 25 _ hz HI.out HS.out HO.out ?_)
      | fail)
    refine bodyPost_ret (results_ct rfl _ _ _ (nextR r) rfl (hset HR.out.2.1) HL.out) rfl ⟨by rw [HW.out]; rfl, gb_step HR.out.2.2 (gb_setRow _ _ _) (by omega)⟩
  have HW := Lib.hid (show nextW which = 1 from if_neg (fun h => h.elim h1 h2))
  have q1 : (which == 1) = false := by simpa using h1
  have q2 : (which == -1) = false := by simpa using h2
  go_enter Tryd.func13, Tryd.ntmps13
  go_wp2_with (first
    | (refine wpList_load_row rfl 25 (.tmp 2) rfl w.heap.size rfl 25 D (0, 0) _ hn Tryd.underlying25 rfl HI.out ?_)
    | (refine wpList_store_row rfl 25 (.tmp 4) (.tmp 17) rfl (w.heap.size + 1) D rfl rfl 25 _ hz HI.out HS.out HO.out ?_)
    | fail)
  refine bodyPost_ret (results_ct rfl _ _ _ (nextR r) rfl (hset HR.out.2.1) HL.out) rfl ⟨by rw [HW.out]; rfl, gb_step HR.out.2.2 (gb_setRow _ _ _) (by omega)⟩
end Go.Proofs.YtckkbcgolphajaaDoor
