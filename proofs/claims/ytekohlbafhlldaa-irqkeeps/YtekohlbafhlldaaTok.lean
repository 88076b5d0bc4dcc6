/-
  A LINE'S TOKEN: a channel with room for one; raise lays the token in, if there is room; take takes it, if there is one. Each of the two selects has one case and a default.
-/
import Derived.Test.YtekohlbafhlldaaLeaf
import Derived.Test.YtekohlbafhlldaaChecked
import Derived.Conc.LoneCalls
import Derived.Conc.LoneSelect
import Derived.Conc.LoneSelectN
import Derived.KernelRfl
import Derived.Laws.Rows
namespace Go.Proofs.Ytekohlbafhlldaa
set_option maxRecDepth 100000
open Go.RowKit Go.Conc
set_option linter.unusedVariables false

/-- The token, or none. -/
def tok (b : Bool) : Array Value := if b then #[.agg #[]] else #[]
/-- A channel with room for one token; b: is there one. -/
def Tk (w : World) (c : Nat) (b : Bool) : Prop := ∃ s r, w.heap[c]? = some (.chan 1 (tok b) false s r false)
theorem Tk.lt {w : World} {c : Nat} {b : Bool} (h : Tk w c b) : c < w.heap.size := by
  obtain ⟨s, r, h⟩ := h
  exact (Array.getElem?_eq_some_iff.1 h).1
theorem Tk.block {w w' : World} {c : Nat} {b : Bool} (h : Tk w c b) (e : w'.heap[c]? = w.heap[c]?) : Tk w' c b := by
  obtain ⟨s, r, h⟩ := h
  exact ⟨s, r, e.trans h⟩
theorem Tk.fr {O : Nat → Prop} {w w' : World} {c : Nat} {b : Bool} (h : Tk w c b) (F : Fr O w w') (ho : ¬ O c) : Tk w' c b := h.block (F.block c h.lt ho)
theorem gbSetChan (w : World) (c cap : Nat) (buf : Array Value) (cl : Bool) (s r : Nat) (tm : Bool) : w.grownBy (w.setChan c cap buf cl s r tm) (some c) :=
  ⟨rfl, rfl, rfl, by simp [World.setChan], fun k _ hk => by
    have : c ≠ k := fun e => hk (by rw [e])
    simp [World.setChan, Array.getElem?_setIfInBounds_ne this]⟩

set_option maxHeartbeats 1000000 in
theorem raise_is (w : World) (x a c : Nat) (b : Bool) (hx : w.cell? ⟨x, a, none⟩ = some (.chan (some c))) (hc : Tk w c b) :
    Calls Try.prog 27 #[.pointer (some ⟨x, a, none⟩)] w fun e w' => e = .returned (.tuple #[]) ∧ Tk w' c true ∧ w.grownBy w' (some c) := by
  obtain ⟨s, r, hc⟩ := hc
  refine calls_of_loneTo fun cs => ?_
  have e : Frame.enter Try.prog 27 #[.pointer (some ⟨x, a, none⟩)] .normal = (base 27).at ⟨#[.pointer (some ⟨x, a, none⟩), undef, undef, undef, undef, undef, undef, undef, undef, undef], []⟩ [.code (Try.f27.body.getD .skip)] := by
    simp [Frame.enter, Frame.at, Try.func27, base, Try.f27]
  rw [e]
  refine LoneTo.goes (n := 13) ?_
  simp only [Try.f27, Option.getD_some]
  s_c stepG_seq
  s_c stepG_seq
  s_reg
  s_op
  s_op
  s_op
  s_op
  s_c stepG_region_end
  s_reg
  s_op
  s_c stepG_region_end
  s_c stepG_seq
  s_reg
  s_stop
  cases b with
  | false =>
    refine LoneTo.step (step_lone_select_send_room (c := c) (v := .agg #[]) (z' := .agg #[]) (cap := 1) (buf := #[]) (s := s) (r := r) (tm := false)
      (stepG_comm (cases := #[scase c (.agg #[]) (.agg #[])]) (blocking := false) (shape := .select) (w' := w) rfl rfl (by decide) (by simp [go_sem, execOp, scase, Act.eval])) hc (by simp)) ?_
    rw [Frame.finish_at]
    walk_nrm
    refine LoneTo.goes (n := 9) ?_
    s_op
    s_op
    s_c stepG_region_end
    s_c stepG_block
    s_cond true
    s_c stepG_skip
    s_c stepG_inBlock
    s_c stepG_end
    s_stop
    refine LoneTo.done ⟨.returned (.tuple #[]), _, rfl, ⟨rfl, ⟨s + 1, r, heap_setChan _ _ _ _ _ _ _ _ (Array.getElem?_eq_some_iff.1 hc).1⟩, gbSetChan _ _ _ _ _ _ _ _⟩, rfl, rfl, rfl, rfl, _, Try.func27, by simp [results, Try.f27, Frame.at]⟩
  | true =>
    refine LoneTo.step (step_lone_select_send_full (c := c) (v := .agg #[]) (z' := .agg #[]) (cap := 1) (buf := #[.agg #[]]) (s := s) (r := r) (tm := false)
      (stepG_comm (cases := #[scase c (.agg #[]) (.agg #[])]) (blocking := false) (shape := .select) (w' := w) rfl rfl (by decide) (by simp [go_sem, execOp, scase, Act.eval])) hc (by simp)) ?_
    rw [Frame.finish_at]
    walk_nrm
    refine LoneTo.goes (n := 9) ?_
    s_op
    s_op
    s_c stepG_region_end
    s_c stepG_block
    s_cond false
    s_c stepG_skip
    s_c stepG_inBlock
    s_c stepG_end
    s_stop
    refine LoneTo.done ⟨.returned (.tuple #[]), _, rfl, ⟨rfl, ⟨s, r, hc⟩, gbRefl _ _⟩, rfl, rfl, rfl, rfl, _, Try.func27, by simp [results, Try.f27, Frame.at]⟩

set_option maxHeartbeats 1000000 in
theorem take_is (w : World) (x a c : Nat) (b : Bool) (hx : w.cell? ⟨x, a, none⟩ = some (.chan (some c))) (hc : Tk w c b) :
    Calls Try.prog 28 #[.pointer (some ⟨x, a, none⟩)] w fun e w' => e = .returned (.bool b) ∧ Tk w' c false ∧ w.grownBy w' (some c) := by
  obtain ⟨s, r, hc⟩ := hc
  refine calls_of_loneTo fun cs => ?_
  have e : Frame.enter Try.prog 28 #[.pointer (some ⟨x, a, none⟩)] .normal = (base 28).at ⟨#[.pointer (some ⟨x, a, none⟩), undef, undef, undef, undef, undef, undef, undef, undef, undef], []⟩ [.code (Try.f28.body.getD .skip)] := by
    simp [Frame.enter, Frame.at, Try.func28, base, Try.f28]
  rw [e]
  refine LoneTo.goes (n := 13) ?_
  simp only [Try.f28, Option.getD_some]
  s_c stepG_seq
  s_reg
  s_op
  s_c stepG_region_end
  s_c stepG_seq
  s_reg
  s_op
  s_op
  s_op
  s_op
  s_c stepG_region_end
  s_c stepG_seq
  s_reg
  s_stop
  cases b with
  | true =>
    refine LoneTo.step (step_lone_select_recv_buf (c := c) (z := .agg #[]) (cap := 1) (buf := #[.agg #[]]) (closed := false) (s := s) (r := r) (tm := false)
      (stepG_comm (cases := #[rcase c (.agg #[])]) (blocking := false) (shape := .select) (w' := w) rfl rfl (by decide) (by simp [go_sem, execOp, rcase, Act.eval])) hc (by simp)) ?_
    rw [Frame.finish_at]
    walk_nrm
    refine LoneTo.goes (n := 11) ?_
    s_op
    s_op
    s_c stepG_region_end
    s_c stepG_block
    s_cond true
    s_c stepG_seq
    s_reg
    s_op
    s_c stepG_region_end
    s_c stepG_ret'
    s_stop
    refine LoneTo.done ⟨.returned (.bool true), _, rfl, ⟨rfl, ⟨s, r + 1, heap_setChan _ _ _ _ _ _ _ _ (Array.getElem?_eq_some_iff.1 hc).1⟩, gbSetChan _ _ _ _ _ _ _ _⟩, rfl, rfl, rfl, rfl, _, Try.func28, by simp [results, Try.f28, Frame.at]⟩
  | false =>
    refine LoneTo.step (step_lone_select_default (c := c) (z := .agg #[]) (cap := 1) (s := s) (r := r) (tm := false)
      (stepG_comm (cases := #[rcase c (.agg #[])]) (blocking := false) (shape := .select) (w' := w) rfl rfl (by decide) (by simp [go_sem, execOp, rcase, Act.eval])) hc) ?_
    rw [Frame.finish_at]
    walk_nrm
    refine LoneTo.goes (n := 11) ?_
    s_op
    s_op
    s_c stepG_region_end
    s_c stepG_block
    s_cond false
    s_c stepG_seq
    s_reg
    s_op
    s_c stepG_region_end
    s_c stepG_ret'
    s_stop
    refine LoneTo.done ⟨.returned (.bool false), _, rfl, ⟨rfl, ⟨s, r, hc⟩, gbRefl _ _⟩, rfl, rfl, rfl, rfl, _, Try.func28, by simp [results, Try.f28, Frame.at]⟩

/-- make(chan struct{}, 1). -/
theorem run_makeTok (w : World) : (Instr.makeChan 43 (.int .i64 1)).run Try.prog w = .ok (.chan (some w.heap.size)) (w.alloc (.chan 1 #[] false 0 0 false)) := by
  have h : (Try.prog.info? 56).map (·.bytes) = some 0 := by kernel_rfl
  obtain ⟨i, hi, hb⟩ := Option.map_eq_some_iff.1 h
  simpa using run_makeChan (P := Try.prog) (w := w) Try.underlying43 hi .i64 1 (by omega) (by rw [hb]; omega)
theorem Tk.made (w : World) : Tk (w.alloc (.chan 1 #[] false 0 0 false)) w.heap.size false := ⟨0, 0, heap_alloc_new _ _⟩
/-- len of a line's channel. -/
theorem Tk.len {w : World} {c : Nat} {b : Bool} (h : Tk w c b) (ty : TypeId) : (Builtin.len_ #[43] ty #[.chan (some c)]).run Try.prog w = .ok (goInt (if b then 1 else 0)) w := by
  obtain ⟨s, r, h⟩ := h
  rw [run_len_chan 43 ty Try.underlying43 h]
  cases b <;> rfl
end Go.Proofs.Ytekohlbafhlldaa
