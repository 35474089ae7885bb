/-
  A line's words, character by character: the contracts of the cutter's methods.
-/
import Derived.Test.YthlmjfjkjjoimaaDoorWpE
import Derived.Deep.CutRange
namespace Go.Proofs.YthlmjfjkjjoimaaDoor.Wd
open Go.ChangeShapes Go.WideShapes Go.ChangeAt Go.RowKit Go.Joins By
set_option linter.unusedVariables false
set_option linter.unusedSimpArgs false

theorem app3k {w : World} {base : Nat} {v : Value} {l : List W3} (h : OwnR w base v l) (x : W3) (hb : base ≤ w.heap.size) (hn : (l.length + 1) * 32 ≤ 140737488355328) (ty : TypeId) :
    ∃ v' w', (Builtin.append_ #[23, 23] ty #[v, .slice (some ⟨w.heap.size, 0, none⟩) 1 1]).run Tryd.prog (w.alloc (.cells #[.string x.t, .int .i64 x.c, .bool x.q] 39)) = .ok v' w' ∧ OwnR w' base v' (l ++ [x]) ∧ (w.alloc (.cells #[.string x.t, .int .i64 x.c, .bool x.q] 39)).grownBy w' v.ownBlock := by
  obtain ⟨i, hi, hz, hs, hby⟩ := info_parts3 info_word
  obtain ⟨v', w', hr, ho, hg, _, _⟩ := run_append_own_at (P := Tryd.prog) (w.alloc (.cells #[.string x.t, .int .i64 x.c, .bool x.q] 39)) base 23 ty 39 i (.agg #[.string ⟨#[]⟩, .int .i64 0, .bool false]) 3 32 Tryd.underlying23 hi hz hs hby rfl (by decide) v l.length (w3 l) (World.ownsRow.alloc h _) ⟨w.heap.size, 0, none⟩ 1 1 (w3 [x]) rfl
    (by
      intro j u hj
      match j, hj with
      | 0, hj => simp [w3] at hj; subst hj; simp [Addr.add, go_sem]
      | 1, hj => simp [w3] at hj; subst hj; simp [Addr.add, go_sem]
      | 2, hj => simp [w3] at hj; subst hj; simp [Addr.add, go_sem]
      | j + 3, hj => simp [w3] at hj) (w3_one _) (by unfold maxLen; omega) (by omega) (by simp; omega)
  refine ⟨v', w', hr, ?_, hg⟩
  unfold OwnR
  rw [w3_app, List.length_append]
  exact ho
theorem ownR_form {w : World} {base : Nat} {v : Value} {l : List W3} (h : OwnR w base v l) : ∃ a cap, v = .slice a l.length cap := by
  rcases h.2 with ⟨hv, h0⟩ | ⟨g, cap, cur, hv, _⟩
  · exact ⟨none, 0, by rw [hv, h0]⟩
  · exact ⟨_, cap, hv⟩
theorem ownR_ne {w : World} {base : Nat} {v : Value} {l : List W3} (h : OwnR w base v l) {b : Nat} {c : Array Value} {T : TypeId} {fz : Nat × Nat} (hb : w.heap[b]? = some (.cells c T fz)) (hT : T ≠ 39) : v.ownBlock ≠ some b := by
  intro e
  obtain ⟨c', h'⟩ := ownR_kind h b e
  rw [hb] at h'
  simp only [Option.some.injEq, Obj.cells.injEq] at h'
  exact hT h'.2.1
/-- behind an append to the words. -/
theorem words_grown {B b : Nat} {w w1 w2 : World} {v : Value} {l : List W3} {ob : Obj} {c : Array Value} (F : Fb w1 b 5 49 c) (hB : B ≤ w1.heap.size) (own : OwnR w1 B v l) (W : Fr B w w1) (hg : (w1.alloc ob).grownBy w2 v.ownBlock) :
    Fb w2 b 5 49 c ∧ Fr B w w2 := by
  have hne := ownR_ne own F.heap cut_ne2
  refine ⟨F.keep ?_, ?_, ?_⟩
  · rw [hg.block b (by have := F.lt; simp; omega) (fun e => hne e.symm)]
    exact Lib.alloc_old w1 _ b F.lt
  · exact (W.below.alloc hB _).grown hg (by simp; omega) own.block
  · intro k s p e
    have e1 := W.iter k s p e
    have lt : k < w1.heap.size := (Array.getElem?_eq_some_iff.1 e1).1
    rw [hg.block k (by simp; omega) (fun e2 => by
      obtain ⟨c', h'⟩ := ownR_kind own k e2.symm
      rw [e1] at h'; cases h')]
    exact (Lib.alloc_old w1 _ k lt).trans e1
theorem Fr.set {B b : Nat} {w w1 : World} (W : Fr B w w1) {c : Array Value} {T : TypeId} {fz : Nat × Nat} (hb : w1.heap[b]? = some (.cells c T fz)) (hB : B ≤ b) (i : Nat) (v : Value) : Fr B w (w1.setCell ⟨b, i, none⟩ v) := by
  refine ⟨W.below.setCell hB _, fun k s p e => ?_⟩
  have e1 := W.iter k s p e
  rw [heap_set_other]
  · exact e1
  · rintro rfl
    rw [e1] at hb; cases hb
theorem bs8_nil_iff {t : ByteArray} : bn t = [] ↔ t = emp := by
  constructor
  · intro h
    rw [← bs8_bn t, h]; rfl
  · rintro rfl; rfl

set_option maxRecDepth 100000 in
set_option maxHeartbeats 4000000 in
theorem finish_c {w : World} {B b : Nat} {S : CS} (h : Cu w B b S) (hn : (S.ws.length + 1) * 32 ≤ 140737488355328) :
    Calls Tryd.prog 32 #[.pointer (some ⟨b, 0, none⟩)] w fun e w' => e = .returned (.tuple #[]) ∧ Cu w' B b S.fin ∧ Fr B w w' := by
  obtain ⟨hB, vw, ad, vb, F, ow, ob, hz⟩ := h
  have SC := String_c F hB (v := vb) rfl ob (bn_byte _) hz
  rw [bs8_bn] at SC
  have lt := F.lt
  unfold pt at *
  go_enter Tryd.func32, Tryd.ntmps32
  go_wp2_with fail
  refine SC.mono ?_
  rintro e w1 ⟨rfl, F1, W1⟩
  have lt1 := F1.lt
  have ow1 := ownR_wrote ow W1 F.heap cut_ne2
  have R1 := W1.fr F.heap
  have d2 : w1.cell? ⟨b, 2, none⟩ = some (.string S.wd.t) := F1.cell 2
  have z2 := F1.cold 2
  have F2 : Fb (w1.setCell ⟨b, 2, none⟩ (.string S.tx)) b 5 49 #[.int .i64 (S.wh : Int), vw, .string S.tx, .int .i64 S.wd.c, .bool S.wd.q, ad, vb] := ⟨heap_set F1.heap 2 _, F1.kind, F1.room, F1.lies, F1.addr⟩
  have ow2 : OwnR (w1.setCell ⟨b, 2, none⟩ (.string S.tx)) B vw S.ws := ownR_keep ow1 fun g hg => heap_set_other _ _ (fun e => ownR_ne ow1 F1.heap cut_ne2 (e ▸ hg))
  have R2 := R1.set F1.heap hB 2 (.string S.tx)
  have P2 := Lib.hid (And.intro F2 (And.intro ow2 R2))
  clear F2 ow2 R2 R1 ow1 W1 F1 SC ob hz
  go_upto_region 1 with fail
  generalize w1.setCell ⟨b, 2, none⟩ (.string S.tx) = w2 at *
  obtain ⟨F2, ow2, R2⟩ := P2.out
  have F2 : Fb w2.drew b 5 49 #[.int .i64 (S.wh : Int), vw, .string S.tx, .int .i64 S.wd.c, .bool S.wd.q, ad, vb] := F2.keep rfl
  have ow2 : OwnR w2.drew B vw S.ws := ow2
  have R2 : Fr B w w2.drew := R2.trans ⟨bdrew1 _ _, fun _ _ _ h => h⟩
  have lt2 := F2.lt
  obtain ⟨v', w3, hr, ow3, hg⟩ := app3k ow2 ⟨S.tx, S.wd.c, S.wd.q⟩ (by omega) hn 23
  obtain ⟨F3, R3⟩ := words_grown F2 (by omega) ow2 R2 hg
  obtain ⟨a', cap', e'⟩ := ownR_form ow3
  rw [List.length_append, List.length_singleton] at e'
  subst e'
  obtain ⟨aw, capw, ew⟩ := ownR_form ow
  subst ew
  have F4 : Fb (w3.setCell ⟨b, 1, none⟩ (.slice a' (S.ws.length + 1) cap')) b 5 49 #[.int .i64 (S.wh : Int), .slice a' (S.ws.length + 1) cap', .string S.tx, .int .i64 S.wd.c, .bool S.wd.q, ad, vb] := ⟨heap_set F3.heap 1 _, F3.kind, F3.room, F3.lies, F3.addr⟩
  have ow4 : OwnR (w3.setCell ⟨b, 1, none⟩ (.slice a' (S.ws.length + 1) cap')) B (.slice a' (S.ws.length + 1) cap') (S.ws ++ [⟨S.tx, S.wd.c, S.wd.q⟩]) := ownR_keep ow3 fun g hg => heap_set_other _ _ (fun e => ownR_ne ow3 F3.heap cut_ne2 (e ▸ hg))
  have R4 := R3.set F3.heap hB 1 (.slice a' (S.ws.length + 1) cap')
  have P4 := Lib.hid (And.intro F4 (And.intro ow4 R4))
  have RA : Hid ((Builtin.append_ #[23, 23] 23 #[.slice aw S.ws.length capw, .slice (some ⟨w2.heap.size, 0, none⟩) 1 1]).run Tryd.prog (w2.drew.alloc (.cells #[.string S.tx, .int .i64 S.wd.c, .bool S.wd.q] 39)) = .ok (.slice a' (S.ws.length + 1) cap') w3) := Lib.hid hr
  have g1 : w2.cell? ⟨b, 1, none⟩ = some (.slice aw S.ws.length capw) := F2.cell 1
  have g2 : w2.cell? ⟨b, 2, none⟩ = some (.string S.tx) := F2.cell 2
  have g3 : w2.cell? ⟨b, 3, none⟩ = some (.int .i64 S.wd.c) := F2.cell 3
  have g4 : w2.cell? ⟨b, 4, none⟩ = some (.bool S.wd.q) := F2.cell 4
  have q1 : (w2.alloc (.cells #[.string S.tx, .int .i64 S.wd.c, .bool S.wd.q] 39)).cell? ⟨b, 1, none⟩ = some (.slice aw S.ws.length capw) := by
    have e := Lib.alloc_old w2 (.cells #[.string S.tx, .int .i64 S.wd.c, .bool S.wd.q] 39) b lt2
    have F5 := F2.keep (w' := w2.alloc (.cells #[.string S.tx, .int .i64 S.wd.c, .bool S.wd.q] 39)) e
    exact F5.cell 1
  have m1 : w3.cell? ⟨b, 1, none⟩ = some (.slice aw S.ws.length capw) := F3.cell 1
  have y1 := F3.cold 1
  clear hr F4 ow4 R4 F2 R2 F3 R3 ow3 ow2 hg ow
  go_region_law (refine step_append_eq rfl (.tmp 14) (.tmp 19) 23 rfl _ _ (.slice a' (S.ws.length + 1) cap') w3 rfl rfl RA.out ?_)
  all_goals
   go_wp2_with fail
   generalize w3.setCell ⟨b, 1, none⟩ (.slice a' (S.ws.length + 1) cap') = w4 at *
   refine (Reset_c P4.out.1 hB).mono ?_
   rintro e w5 ⟨rfl, F5, hk5, hs5, W5⟩
   have ow5 := ownR_wrote P4.out.2.1 W5 P4.out.1.heap cut_ne2
   have P5 : Hid (Cu w5 B b S.fin ∧ Fr B w w5) := Lib.hid ⟨⟨hB, _, _, _, F5, ow5, Own.nil _ _, fun _ => rfl⟩, P4.out.2.2.trans (W5.fr P4.out.1.heap)⟩
   clear ow5 W5 F5 hk5 hs5
   go_wp2
   go_end0
   exact ⟨rfl, P5.out⟩
end Go.Proofs.YthlmjfjkjjoimaaDoor.Wd
