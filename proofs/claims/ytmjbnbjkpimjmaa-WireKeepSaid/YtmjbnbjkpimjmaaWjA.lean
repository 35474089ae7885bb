/-
  Appends to bytes of the call's own, and what they leave alone: the contracts of wire.appendNumber and sundialref09.put.
  Conditions: none.
-/
import Derived.Test.YtmjbnbjkpimjmaaWiE
namespace Go.Proofs.Ytmjbnbjkpimjmaa.Wi
open Go.RowKit Go.ChangeShapes Go.WideShapes Go.ChangeAt Go.Joins By
set_option linter.unusedVariables false
set_option linter.unusedSimpArgs false

/-- from v in w to v' in w' nothing was turned but v's own block; v's own block is the old one or new. -/
def Gr (w : World) (v : Value) (w' : World) (v' : Value) : Prop := w.heap.size ≤ w'.heap.size ∧ (∀ k, k < w.heap.size → v.ownBlock ≠ some k → w'.heap[k]? = w.heap[k]?) ∧ ∀ k, v'.ownBlock = some k → v.ownBlock = some k ∨ w.heap.size ≤ k
theorem Gr.rf (w : World) (v : Value) : Gr w v w v := ⟨Nat.le_refl _, fun _ _ _ => rfl, fun _ h => .inl h⟩
theorem Gr.tr {w w1 w2 : World} {v v1 v2 : Value} (h : Gr w v w1 v1) (k : Gr w1 v1 w2 v2) : Gr w v w2 v2 := by
  refine ⟨Nat.le_trans h.1 k.1, fun i hi hv => (k.2.1 i (Nat.lt_of_lt_of_le hi h.1) (fun e => ?_)).trans (h.2.1 i hi hv), fun i hi => ?_⟩
  · rcases h.2.2 i e with e | e
    · exact hv e
    · omega
  · rcases k.2.2 i hi with e | e
    · exact h.2.2 i e
    · exact .inr (Nat.le_trans h.1 e)
theorem Gr.below {w w1 w2 : World} {v v1 : Value} (h : Gr w v w1 v1) (k : Below w1.heap.size w1 w2) : Gr w v w2 v1 :=
  ⟨Nat.le_trans h.1 k.size, fun i hi hv => (k.block i (Nat.lt_of_lt_of_le hi h.1)).trans (h.2.1 i hi hv), h.2.2⟩
theorem Gr.ahead {w w1 w2 : World} {v v2 : Value} (k : Below w.heap.size w w1) (h : Gr w1 v w2 v2) : Gr w v w2 v2 :=
  ⟨Nat.le_trans k.size h.1, fun i hi hv => (h.2.1 i (Nat.lt_of_lt_of_le hi k.size) hv).trans (k.block i hi), fun i hi => (h.2.2 i hi).imp id (fun e => Nat.le_trans k.size e)⟩
/-- a block that is not the own one stays. -/
theorem Gr.blk {w w' : World} {v v' : Value} (h : Gr w v w' v') {b : Nat} {vs : List Value} (B : Blk w b vs) (hv : v.ownBlock ≠ some b) : Blk w' b vs := by
  have e := h.2.1 b B.1 hv
  refine ⟨Nat.lt_of_lt_of_le B.1 h.1, fun i x hx => ?_⟩
  obtain ⟨h1, h2⟩ := B.2 i x hx
  unfold World.cell? World.frozen? at *
  rw [e]
  exact ⟨h1, h2⟩
theorem Gr.not {w w' : World} {v v' : Value} (h : Gr w v w' v') {b : Nat} (hb : b < w.heap.size) (hv : v.ownBlock ≠ some b) : v'.ownBlock ≠ some b := fun e => by
  rcases h.2.2 b e with e | e
  · exact hv e
  · omega
theorem gr_of {w w' : World} {v v' : Value} (hg : w.grownBy w' v.ownBlock) (ho : v'.ownBlock = v.ownBlock ∨ v'.ownBlock = some w.heap.size) : Gr w v w' v' :=
  ⟨hg.size, fun k hk hv => hg.block k hk (fun e => hv e.symm), fun k hk => by
    rcases ho with e | e
    · exact .inl (e ▸ hk)
    · rw [e] at hk
      cases hk
      exact .inr (Nat.le_refl _)⟩
theorem app1g {w : World} {base : Nat} {v : Value} {l : List Nat} (h : Own w base v l) (x : Nat) (hb : base ≤ w.heap.size) (hn : l.length + 1 ≤ 140737488355328) (ty : TypeId) :
    ∃ v' w', (Builtin.append_ #[28, 28] ty #[v, .slice (some ⟨w.heap.size, 0, none⟩) 1 1]).run Try.prog (w.alloc (.cells #[.int .u8 (x : Int)] 5)) = .ok v' w' ∧ Own w' base v' (l ++ [x]) ∧ Below base w w' ∧ Gr w v w' v' := by
  obtain ⟨i, hi, hz, hs, hby⟩ := info_parts info_u8
  obtain ⟨v', w', hr, ho, hg, _, hob⟩ := run_append_own_at (P := Try.prog) (w.alloc (.cells #[.int .u8 (x : Int)] 5)) base 28 ty 5 i (.int .u8 0) 1 1 Try.underlying28 hi hz hs hby rfl (by decide) v l.length (cl l) (World.ownsRow.alloc h _) ⟨w.heap.size, 0, none⟩ 1 1 (cl [x]) rfl
    (by intro j u hj; cases j with | zero => (simp [cl] at hj; subst hj; simp [Addr.add, go_sem]) | succ j => simp [cl] at hj) (cl_one _) (by unfold maxLen; omega) (by omega) (by simp; omega)
  have hB : Below base w (w.alloc (.cells #[.int .u8 (x : Int)] 5)) := (Below.refl base w).alloc hb _
  have hB2 := hB.grown hg (by simp; omega) h.block
  refine ⟨v', w', hr, ?_, hB2, (gr_of hg hob).ahead (balloc (brefl w) _)⟩
  unfold Own
  rw [cl_app, List.length_append]
  exact ho
theorem appLg {w : World} {base : Nat} {v : Value} {l : List Nat} (h : Own w base v l) (k : List Nat) (hk : 0 < k.length) (hb : base ≤ w.heap.size) (hn : l.length + k.length ≤ 140737488355328) (ty : TypeId) :
    ∃ v' w', (Builtin.append_ #[28, 28] ty #[v, .slice (some ⟨w.heap.size, 0, none⟩) k.length k.length]).run Try.prog (w.alloc (.cells (cl k).toArray 5)) = .ok v' w' ∧ Own w' base v' (l ++ k) ∧ Below base w w' ∧ Gr w v w' v' := by
  obtain ⟨i, hi, hz, hs, hby⟩ := info_parts info_u8
  obtain ⟨v', w', hr, ho, hg, _, hob⟩ := run_append_own_at (P := Try.prog) (w.alloc (.cells (cl k).toArray 5)) base 28 ty 5 i (.int .u8 0) 1 1 Try.underlying28 hi hz hs hby rfl (by decide) v l.length (cl l) (World.ownsRow.alloc h _) ⟨w.heap.size, 0, none⟩ k.length k.length (cl k) (by rw [cl_len]; omega)
    (by
      intro j u hj
      have e : (⟨w.heap.size, 0, none⟩ : Addr).add j = ⟨w.heap.size, j, none⟩ := by unfold Addr.add; split <;> simp_all
      rw [e, World.cell?_alloc_mark w _ _ (0, 0) j]
      simpa using hj) (cl_one _) (by unfold maxLen; omega) (by omega) (by simp; omega)
  have hB : Below base w (w.alloc (.cells (cl k).toArray 5)) := (Below.refl base w).alloc hb _
  have hB2 := hB.grown hg (by simp; omega) h.block
  refine ⟨v', w', hr, ?_, hB2, (gr_of hg hob).ahead (balloc (brefl w) _)⟩
  unfold Own
  rw [cl_app, List.length_append]
  exact ho
/-- append of bytes that lie in memory. -/
theorem Sl.appg {w0 w : World} {va : Value} {k : List Nat} (A : Sl w0 va k) (q : Below w0.heap.size w0 w) {base : Nat} {v : Value} {l : List Nat} (h : Own w base v l) (hb : base ≤ w.heap.size) (hn : l.length + k.length ≤ 140737488355328) (ty : TypeId) :
    ∃ v' w', (Builtin.append_ #[28, 28] ty #[v, va]).run Try.prog w = .ok v' w' ∧ Own w' base v' (l ++ k) ∧ Below base w w' ∧ Gr w v w' v' := by
  obtain ⟨i, hi, hz, hs, hby⟩ := info_parts info_u8
  obtain ⟨h0, h8, a, cap, rfl, h1, h2, h3, h4, h5⟩ := A
  cases a with
  | none =>
    obtain rfl := h5 rfl
    obtain rfl : k = [] := List.length_eq_zero_iff.1 (by omega)
    exact ⟨v, w, run_append_owned_none (P := Try.prog) w base 28 ty 5 i 1 Try.underlying28 hi v l.length (cl l) h, by simpa using h, Below.refl _ _, Gr.rf _ _⟩
  | some ad =>
    obtain ⟨v', w', hr, ho, hg, hnil, hob⟩ := run_append_own_at (P := Try.prog) w base 28 ty 5 i (.int .u8 0) 1 1 Try.underlying28 hi hz hs hby rfl (by decide) v l.length (cl l) h ad k.length cap (cl k) (by rw [cl_len]; omega)
      (by
        intro j u hj
        have hj' : j < k.length := by have := (List.getElem?_eq_some_iff.1 hj).1; rw [cl_len] at this; exact this
        obtain ⟨b, off, ea, B⟩ := h4 (by omega)
        cases ea
        have e := (B.below q).2.2 j hj'
        have : u = .int .u8 ((k.getD j 0 : Nat) : Int) := by simpa [cl, List.getD_eq_getElem?_getD, hj'] using hj.symm
        rw [this]
        cases j <;> simpa [Addr.add] using e) (cl_one _) (by unfold maxLen; omega) (by omega) hb
    have hB2 := (Below.refl base w).grown hg hb h.block
    refine ⟨v', w', hr, ?_, hB2, gr_of hg hob⟩
    unfold Own
    rw [cl_app, List.length_append]
    exact ho
theorem own_below {w w' : World} {base : Nat} {v : Value} {l : List Nat} (h : Own w base v l) (k : Below w.heap.size w w') : Own w' base v l := by
  refine ⟨h.1, ?_⟩
  rcases h.2 with ⟨h0, h1⟩ | ⟨g, cap, cur, hv, hb, hh, hc, hm, hcs, ht⟩
  · exact .inl ⟨h0, h1⟩
  · exact .inr ⟨g, cap, cur, hv, hb, (k.block g (Array.getElem?_eq_some_iff.1 hh).1).trans hh, hc, hm, hcs, ht⟩
/-- an own slice's block lies in the heap. -/
theorem own_lt {w : World} {base : Nat} {v : Value} {l : List Nat} (h : Own w base v l) {k : Nat} (e : v.ownBlock = some k) : k < w.heap.size := by
  rcases h.2 with ⟨h0, h1⟩ | ⟨g, cap, cur, hv, hb, hh, hc, hm, hcs, ht⟩
  · rw [h0] at e; cases e
  · rw [hv] at e
    simp only [Value.ownBlock] at e
    cases e
    exact (Array.getElem?_eq_some_iff.1 hh).1

set_option maxRecDepth 100000 in
set_option maxHeartbeats 2000000 in
theorem appendNumber_g {w : World} {base : Nat} {v : Value} {l : List Nat} (hO : Own w base v l) (hb : base ≤ w.heap.size) (m x : Nat) (hm : m ≤ 8) (hx : x < 18446744073709551616) (hl : l.length ≤ 140737488351296) :
    Calls Try.prog 19 #[v, .int .i64 (m : Int), .int .u64 (x : Int)] w fun e w' => ∃ v', e = .returned v' ∧ Own w' base v' (l ++ pt x m) ∧ Below base w w' ∧ Gr w v w' v' := by
  have H := Lib.hid hO
  clear hO
  have q0 : (0 : Int) ≤ (m : Int) := by omega
  have q1 : (m : Int) ≤ 8 := by omega
  have q2 : (0 : Int) ≤ (x : Int) := by omega
  have q3 : (x : Int) < 18446744073709551616 := by omega
  go_enter Try.func19, Try.ntmps19
  go_wp2_with fail
  go_loopw [0, 7] (fun v1 iv wr => ∃ j k : Nat, k + j = m ∧ Own wr base v1 (l ++ (pt x m).take k) ∧ iv = .int .i64 (8 * (j : Int) - 8) ∧ Below base w wr ∧ Gr w v wr v1) (fun _ iv _ => ((intOf iv) + 8).toNat)
  case atStart => exact ⟨m, 0, by omega, by simpa using H.out, by simp; omega, Below.refl _ _, Gr.rf _ _⟩
  case round =>
    obtain ⟨j, k, hk, ho, rfl, hbw, hs⟩ := hrel
    rename World => wr
    have HB := Lib.hid hbw
    have HS := Lib.hid hs
    clear hbw hs
    cases j with
    | succ d =>
      obtain ⟨q, hq⟩ : ∃ q : Nat, q = x / 256 ^ d := ⟨_, rfl⟩
      have HQ : (x : Int) / 2 ^ (8 * d) = (q : Int) := by rw [hq, show (256 : Nat) = 2 ^ 8 from rfl, ← Nat.pow_mul]; simp
      obtain ⟨v', w', hr, o', b', s'⟩ := app1g ho (q % 256) (Nat.le_trans hb HS.out.1) (by have := pt_len x m; simp; omega) 28
      have O' : Hid (Own w' base v' (l ++ (pt x m).take (k + 1))) := Lib.hid (by rw [pt_succ_at _ _ _ (by omega), show m - 1 - k = d by omega, ← hq]; simpa using o')
      rw [show ((q % 256 : Nat) : Int) = (q : Int) % 256 by omega] at hr
      have B' := Lib.hid (HB.out.trans b')
      have S' := Lib.hid (HS.out.tr s')
      have e8 : 8 * ((d + 1 : Nat) : Int) - 8 = ((8 * d : Nat) : Int) := by omega
      rw [e8]
      have HM := Lib.hid (show (((((8 * d : Nat) : Int) + 8).toNat = 8 * d + 8)) by omega)
      have HR := Lib.hid (show ((8 * d : Nat) : Int) - 8 = 8 * (d : Int) - 8 by omega)
      have HK := Lib.hid (show (k + 1) + d = m by omega)
      have t0 : (0 : Int) ≤ ((8 * d : Nat) : Int) := by omega
      have t1 : ((8 * d : Nat) : Int) ≤ 56 := by omega
      clear hq
      have HD := Lib.hid (show 8 * d ≤ 56 by omega)
      clear b' s' o' e8 t0 t1
      generalize 8 * d = s at *
      have t0 : (0 : Int) ≤ (s : Int) := by omega
      have t1 : (s : Int) ≤ 56 := by have := HD.out; omega
      clear q0 q1 hm
      go_wp2_with (first | (at_builtin; refine wpList_append_eq rfl _ _ 28 rfl _ _ v' w' rfl rfl hr ?_))
      exact ⟨⟨d, k + 1, HK.out, O'.out, by rw [HR.out], B'.out, S'.out⟩, by show ((s : Int) - 8 + 8).toNat < ((s : Int) + 8).toNat; omega⟩
    | zero =>
      obtain rfl : k = m := by omega
      have HO := Lib.hid ho
      clear ho
      have HT : Hid ((pt x k).take k = pt x k) := Lib.hid (by rw [List.take_of_length_le]; rw [pt_len]; omega)
      go_wp2_with fail
      go_ret
      exact ⟨_, rfl, by rw [← HT.out]; exact HO.out, HB.out, HS.out⟩

set_option maxRecDepth 100000 in
set_option maxHeartbeats 2000000 in
theorem put_g {w : World} {base : Nat} {v : Value} {l : List Nat} (hO : Own w base v l) (hb : base ≤ w.heap.size) (m x : Nat) (hm : m ≤ 8) (hx : x < 18446744073709551616) (hl : l.length ≤ 140737488351296) :
    Calls Try.prog 21 #[v, .int .u64 (x : Int), .int .i64 (m : Int)] w fun e w' => ∃ v', e = .returned v' ∧ Own w' base v' (l ++ pt x m) ∧ Below base w w' ∧ Gr w v w' v' := by
  have H := Lib.hid hO
  clear hO
  have q0 : (0 : Int) ≤ (m : Int) := by omega
  have q1 : (m : Int) ≤ 8 := by omega
  have q2 : (0 : Int) ≤ (x : Int) := by omega
  have q3 : (x : Int) < 18446744073709551616 := by omega
  go_enter Try.func21, Try.ntmps21
  go_wp2_with fail
  go_loopw [0, 7] (fun v1 iv wr => ∃ j k : Nat, k + j = m ∧ Own wr base v1 (l ++ (pt x m).take k) ∧ iv = .int .i64 ((j : Int) - 1) ∧ Below base w wr ∧ Gr w v wr v1) (fun _ iv _ => ((intOf iv) + 1).toNat)
  case atStart => exact ⟨m, 0, by omega, by simpa using H.out, rfl, Below.refl _ _, Gr.rf _ _⟩
  case round =>
    obtain ⟨j, k, hk, ho, rfl, hbw, hs⟩ := hrel
    rename World => wr
    have HB := Lib.hid hbw
    have HS := Lib.hid hs
    clear hbw hs
    cases j with
    | succ d =>
      obtain ⟨q, hq⟩ : ∃ q : Nat, q = x / 256 ^ d := ⟨_, rfl⟩
      have HQ : (x : Int) / 2 ^ (8 * d) = (q : Int) := by rw [hq, show (256 : Nat) = 2 ^ 8 from rfl, ← Nat.pow_mul]; simp
      obtain ⟨v', w', hr, o', b', s'⟩ := app1g ho (q % 256) (Nat.le_trans hb HS.out.1) (by have := pt_len x m; simp; omega) 28
      have O' : Hid (Own w' base v' (l ++ (pt x m).take (k + 1))) := Lib.hid (by rw [pt_succ_at _ _ _ (by omega), show m - 1 - k = d by omega, ← hq]; simpa using o')
      rw [show ((q % 256 : Nat) : Int) = (q : Int) % 256 by omega] at hr
      have B' := Lib.hid (HB.out.trans b')
      have S' := Lib.hid (HS.out.tr s')
      have e8 : ((d + 1 : Nat) : Int) - 1 = (d : Int) := by omega
      rw [e8]
      have HK := Lib.hid (show (k + 1) + d = m by omega)
      have t0 : (0 : Int) ≤ (d : Int) := by omega
      have t1 : (d : Int) ≤ 7 := by omega
      clear b' s' o' e8 hq q0 q1 hm
      go_wp2_with (first | (at_builtin; refine wpList_append_eq rfl _ _ 28 rfl _ _ v' w' rfl rfl hr ?_))
      exact ⟨⟨d, k + 1, HK.out, O'.out, rfl, B'.out, S'.out⟩, by show ((d : Int) - 1 + 1).toNat < ((d : Int) + 1).toNat; omega⟩
    | zero =>
      obtain rfl : k = m := by omega
      have HO := Lib.hid ho
      clear ho
      have HT : Hid ((pt x k).take k = pt x k) := Lib.hid (by rw [List.take_of_length_le]; rw [pt_len]; omega)
      go_wp2_with fail
      go_ret
      exact ⟨_, rfl, by rw [← HT.out]; exact HO.out, HB.out, HS.out⟩

end Go.Proofs.Ytmjbnbjkpimjmaa.Wi
