/-
  The front of a block is written; a packet's header as values.
  Conditions: none.
-/
import Derived.Test.YtmjbnbjkpimjmaaWjF
import Derived.Test.YtmjbnbjkpimjmaaWiO
namespace Go.Proofs.Ytmjbnbjkpimjmaa.Wi
open Go.RowKit Go.ChangeShapes Go.WideShapes Go.ChangeAt Go.Joins By
set_option linter.unusedVariables false
set_option linter.unusedSimpArgs false

theorem Blk.thereP {w : World} {b : Nat} {l : List Value} (h : Blk w b l) {m : Nat} (hm : m ≤ l.length) : w.there b 0 m := fun j hj => h.there j (by omega)
theorem Blk.put {w : World} {b : Nat} {l : List Value} (h : Blk w b l) (vs : List Value) (hl : vs.length ≤ l.length) : Blk (w.setCells b 0 vs) b (vs ++ l.drop vs.length) :=
  ⟨by rw [size_over]; exact h.1, fun i x hx => by
    by_cases c : i < vs.length
    · rw [List.getElem?_append_left c] at hx
      have hr := World.rangeAt_setCells_same w b 0 vs (h.thereP hl) i x hx
      have ht := h.thereP hl i c
      rw [Nat.zero_add] at hr ht
      exact ⟨hr, by rw [World.frozen?_setCells]; exact ht.2⟩
    · rw [List.getElem?_append_right (by omega), List.getElem?_drop, show vs.length + (i - vs.length) = i from by omega] at hx
      have e := h.2 i x hx
      exact ⟨by rw [World.cell?_setCells_out b vs 0 w ⟨b, i, none⟩ (fun _ _ => .inr (by show 0 + vs.length ≤ i; omega))]; exact e.1, by rw [World.frozen?_setCells]; exact e.2⟩⟩
theorem Blk.runP {P : Program} {w : World} {b : Nat} {l : List Value} (h : Blk w b l) (vs : List Value) (hl : vs.length ≤ l.length) (ho : ∀ v ∈ vs, v.oneCell' = true) : (storeCells ⟨b, 0, none⟩ vs).run P w = .ok () (w.setCells b 0 vs) := by
  have ht := h.thereP hl
  have h := run_storeCells_cells (P := P) b 0 vs 0 w (fun j hj => by simpa using (ht j hj).1) (fun j hj => by simpa using (ht j hj).2) ho
  simpa using h
theorem blk_over {w : World} {b b' : Nat} {l : List Value} (h : Blk w b l) (hb : b ≠ b') (vs : List Value) : Blk (w.setCells b' 0 vs) b l :=
  ⟨by rw [size_over]; exact h.1, fun i x hx => ⟨by rw [World.cell?_setCells_out b' vs 0 w ⟨b, i, none⟩ (fun e _ => absurd e hb)]; exact (h.2 i x hx).1, by rw [World.frozen?_setCells]; exact (h.2 i x hx).2⟩⟩
/-- a header's values in order. -/
def hvs (p : Pk) : List Value := [.int .i64 p.leap, .int .i64 p.ver, .int .i64 p.mode, .int .i64 p.strat, .int .i64 p.poll, .int .i64 p.prec, .int .u32 (p.rd : Nat), .int .u32 (p.rs : Nat), .int .u32 (p.rid : Nat), .int .u64 (p.tref : Nat), .int .u64 (p.torg : Nat), .int .u64 (p.trec : Nat), .int .u64 (p.txm : Nat)]
theorem hvs_len (p : Pk) : (hvs p).length = 13 := rfl
theorem hvs_one (p : Pk) : ∀ v ∈ hvs p, v.oneCell' = true := by
  intro v hv
  simp only [hvs, List.mem_cons, List.not_mem_nil, or_false] at hv
  rcases hv with rfl | rfl | rfl | rfl | rfl | rfl | rfl | rfl | rfl | rfl | rfl | rfl | rfl <;> rfl
/-- sundialref09.header: its values in order. -/
theorem rheader_v {w : World} {b o n cap : Nat} {f : Nat → Nat} (h : Bs w b o n f) (hn : 48 ≤ n) (hn2 : n ≤ 140737488351232) :
    Calls Try.prog 31 #[.slice (some ⟨b, o, none⟩) n cap] w fun e w' => e = .returned (.agg (hvs (hd f)).toArray) ∧ Below w.heap.size w w' := rheader_c h hn hn2
theorem cut_end {f : Nat → Nat} {n A : Nat} (h : n - A ≤ 24) : ∀ r, cut f n r A = some ([], A)
  | 0 => by rw [cut, if_pos h]
  | r + 1 => by rw [cut, if_pos h]
theorem cut_none {f : Nat → Nat} {n A r : Nat} (h : ¬ n - A ≤ 24) (hr : ¬ (16 ≤ gt f (A + 2) 2 ∧ gt f (A + 2) 2 % 4 = 0 ∧ gt f (A + 2) 2 ≤ n - A ∧ 0 < r)) : cut f n r A = none := by
  cases r with
  | zero => rw [cut, if_neg h]
  | succ r => rw [cut, if_neg h, if_neg (fun c => hr ⟨c.1, c.2.1, c.2.2, by omega⟩)]
theorem cut_go {f : Nat → Nat} {n A r : Nat} (h : ¬ n - A ≤ 24) (hr : 16 ≤ gt f (A + 2) 2 ∧ gt f (A + 2) 2 % 4 = 0 ∧ gt f (A + 2) 2 ≤ n - A) : cut f n (r + 1) A = (cut f n r (A + gt f (A + 2) 2)).map fun x => ((((gt f A 2 : Nat) : Int), bl (fun i => f (A + 4 + i)) (gt f (A + 2) 2 - 4)) :: x.1, x.2) := by
  rw [cut, if_neg h, if_pos hr]
theorem cut_step {f : Nat → Nat} {n r r' A A' : Nat} {L : List Fd} {x : Fd} (h : cut f n 8 48 = (cut f n r A).map fun y => (L ++ y.1, y.2)) (g : cut f n r A = (cut f n r' A').map fun y => (x :: y.1, y.2)) : cut f n 8 48 = (cut f n r' A').map fun y => (L ++ [x] ++ y.1, y.2) := by
  rw [h, g]
  cases cut f n r' A' with
  | none => rfl
  | some y => simp
end Go.Proofs.Ytmjbnbjkpimjmaa.Wi
