/-
  The table's pages, gone through: its iterator's contract, and what Lowest and Sectors answer, over this seat's translation; conditions: the table's block is there, or there is no table.
-/
import Derived.Test.YtfkkdhgggocgjaaDoorTz
namespace Go.Proofs.YtfkkdhgggocgjaaDoor
open Go.RowKit Go.Shelf
attribute [local go_sem] Oper.semAt_some

theorem all_any (p : Nat) (w : World) : Calls Tryd.prog 43 #[.pointer (some ⟨p, 0, none⟩)] w fun e w' => e = .returned (.func (.func 54) #[] #[.pointer (some ⟨w.heap.size, 0, none⟩)]) ∧ w' = w.alloc (.cells #[.pointer (some ⟨p, 0, none⟩)] 23) := by
  go_enter Tryd.func43, Tryd.ntmps43
  go_wp2
  go_ret
  exact ⟨rfl, rfl⟩
theorem wpListIn_load_at {F : Fence} {n : Nat} {P : Program} {ops : Array Oper} {rest : List Oper} {o : Oper} {a : Act} {w : World} {Q : Exit → Act → World → Prop} (hgd : o.guard = none) (ty : TypeId) (x : Operand) (ho : o.op = .load ty x)
    (ad : Addr) (hx : a.eval x = .pointer (some ad)) (v : Value) (hr : (loadVar ty ad).run P w = .ok v w) (h : wpListIn F n P ops Q rest (a.put o.dst v) w) : wpListIn F n P ops Q (o :: rest) a w := by
  refine wpListIn_plain hgd fun K hK' => ?_
  unfold Oper.wpIn
  refine ⟨?_, ?_⟩
  · simp [Oper.about, ho]
  · rw [Oper.semAt_plain F _ _ (by rw [ho]; intro c hc'; cases hc')]
    simp [execOp, ho, hx, Instr.loadAt, Instr.sureAddr, Sem.run_bind, Result.andThen, hr]
    exact hK' _ _ h
/-- What a round need keep: nothing. -/
def Keep0 (_ _ : World) : Prop := True
set_option maxRecDepth 100000 in
set_option maxHeartbeats 1000000 in
theorem all1_in (n : Nat) (hn : 1 ≤ n) (l B p : Nat) (s : TB) (J Jx : List (Nat × Nat) → World → Prop)
    (hY : ∀ pre x W, J pre W → pre.length < 961 → YieldAt Fence.wide (n - 1) Tryd.prog l #[.int .i64 (x.1 : Nat), .int .i64 (x.2 : Nat)] W fun e W' =>
      (e = .returned (.bool true) ∧ J (pre ++ [x]) W' ∧ Keep0 W W') ∨ (e = .returned (.bool false) ∧ Jx (pre ++ [x]) W'))
    (W : World) (hB : W.cell? ⟨B, 0, none⟩ = some (.pointer (some ⟨p, 0, none⟩))) (hP : PT W p s) (h0 : J [] W) :
    CallsIn Fence.wide n Tryd.prog 54 #[.func (.yield l) #[] #[], .pointer (some ⟨B, 0, none⟩)] W fun e W' => (∃ v, e = .returned v) ∧
      ((∃ ys, ys = allF s.P ∧ J ys W') ∨ (∃ pre, (∃ k, k ≤ 960 ∧ pre = (allF s.P).take k) ∧ Jx pre W')) := by
  have hl := load_pages hP
  have hx := index_pages s.P hP.2.1
  have hlt := hP.fit.lt
  obtain ⟨C, hC⟩ : ∃ C, (u16C s.P).toArray = C := ⟨_, rfl⟩
  rw [hC] at hl hx
  have HX := Lib.hid hx
  have HLT := Lib.hid hlt
  clear hP hC hx hlt
  refine callsIn_of_wp Tryd.func54 rfl trivial ?_ rfl
  simp only [Tryd.ntmps54, List.size_toArray, List.length_cons, List.length_nil, Nat.reduceAdd, Nat.reduceSub, Array.replicate_succ, Array.replicate_zero, List.push_toArray, List.append_toArray, List.nil_append, List.cons_append]
  gi_wp2_with (refine wpListIn_load_at rfl 59 (.tmp 7) rfl ⟨p, 0, none⟩ rfl _ hl ?_)
  clear hl
  gi_loopw [9] (fun i wr => ∃ k : Nat, k ≤ 960 ∧ i = .int .i64 k ∧ J ((allF s.P).take k) wr) (fun i _ => 960 - (intOf i).toNat)
  case atStart => exact ⟨0, by omega, rfl, h0⟩
  case round =>
    obtain ⟨k, hk, rfl, hJs⟩ := hrel
    clear hB h0
    by_cases hlt : k < 960
    · have hix := HX.out k hlt
      have hvl := HLT.out k
      have HS := Lib.hid (allF_snoc s.P hlt)
      obtain ⟨fn, tmps, assign, body, hy, hR⟩ := hY ((allF s.P).take k) (k + 1, s.P.getD k 0) wr hJs (by rw [List.length_take]; omega)
      dsimp only at hy hR
      generalize s.P.getD k 0 = v at hix hvl HS hR hy
      have hvw : IntKind.i64.wrap (v : Int) = (v : Int) := IntWalk.i64_in _ (by omega)
      have e1 : ((k + 1 : Nat) : Int) = (k : Int) + 1 := by omega
      rw [e1] at hy
      clear hY
      gi_wp2
      refine hR.mono ?_
      rintro e' W3 (⟨rfl, hJ3, _⟩ | ⟨rfl, hJx3⟩)
      · rw [← HS.out] at hJ3
        gi_wp2
        go_roundw
        case rel => exact ⟨k + 1, by omega, by go_num, hJ3⟩
        case measure => simp [intOf]; omega
      · rw [← HS.out] at hJx3
        gi_wp2
        refine bodyPost_ret (results_none rfl _ _ _) rfl ?_
        exact ⟨⟨_, rfl⟩, .inr ⟨_, ⟨k + 1, by omega, rfl⟩, hJx3⟩⟩
    · obtain rfl : k = 960 := by omega
      rw [List.take_of_length_le (by rw [allF_length]; omega)] at hJs
      gi_wp2
      go_end0
      exact ⟨⟨_, rfl⟩, .inl ⟨_, rfl, hJs⟩⟩

/-- What the closure hands over: all pages in their order, or a beginning of them. -/
theorem all_stops (n : Nat) (hn : 1 ≤ n) (B p : Nat) (s : TB) (w : World) (hBn : B < w.heap.size)
    (hc : w.cell? ⟨B, 0, none⟩ = some (.pointer (some ⟨p, 0, none⟩))) (hP : PT w p s) :
    SeqStopsK Fence.wide n Tryd.prog 54 #[.pointer (some ⟨B, 0, none⟩)] (fun x : Nat × Nat => #[Value.int .i64 (x.1 : Nat), .int .i64 (x.2 : Nat)]) Keep0 (fun ys => ys = allF s.P) (fun pre => ∃ k, k ≤ 960 ∧ pre = (allF s.P).take k) 961 w := fun l J Jx W hW _ _ hY h0 =>
  all1_in n hn l B p s J Jx hY W ((hW.cell (p := ⟨B, 0, none⟩) hBn).trans hc) (hP.keep0 (gb_of_below hW)) h0
end Go.Proofs.YtfkkdhgggocgjaaDoor

