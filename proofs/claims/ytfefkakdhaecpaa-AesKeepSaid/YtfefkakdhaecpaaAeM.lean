/-
  The contract of aes.toBlock.
  Conditions: at most sixteen bytes are handed in.
-/
import Derived.Test.YtfefkakdhaecpaaAeH
import Derived.Laws.CopyOwn
namespace Go.Proofs.Ytfefkakdhaecpaa.Ae
open Go.RowKit By
set_option linter.unusedVariables false
set_option linter.unusedSimpArgs false

/-- n bytes behind an address, if there are any. -/
def Sl (w : World) (p : Option Addr) (n : Nat) (f : Nat → Nat) : Prop := 0 < n → ∃ b o, p = some ⟨b, o, none⟩ ∧ Bs w b o n f
theorem Sl.below {w w' : World} {p : Option Addr} {n : Nat} {f : Nat → Nat} (h : Sl w p n f) (k : Below w.heap.size w w') : Sl w' p n f := fun hn => by
  obtain ⟨b, o, hp, B⟩ := h hn
  exact ⟨b, o, hp, B.below k⟩
theorem cell_row {w : World} {b : Nat} {L : List Value} {t : TypeId} (h : w.heap[b]? = some (.cells L.toArray t (0, 0))) (i : Nat) : w.cell? ⟨b, i, none⟩ = L[i]? ∧ w.frozen? ⟨b, i, none⟩ = false := by
  simp [World.cell?, World.frozen?, h]
/-- a copy whose outcome is known. -/
theorem wpList_copy_eq {P : Program} {w : World} {ops : Array Oper} {rest : List Oper} {o : Oper} {a : Act} {Q : Exit → Act → World → Prop} (hgd : o.guard = none) (s x : Operand) (t : TypeId)
    (ho : o.op = .call { callee := .builtin .copy, args := #[s, x], argTypes := #[t, t] }) (v xv v' : Value) (w' : World) (hs : a.eval s = v) (hx : a.eval x = xv)
    (hr : (Builtin.copy_ #[t, t] o.type #[v, xv]).run P w = .ok v' w') (h : wpList P ops Q rest (a.put o.dst v') w') : wpList P ops Q (o :: rest) a w := by
  refine wpList_plain hgd fun K hK => ?_
  unfold Oper.wp execOp
  simp only [ho, resolve, invoke, builtin, Sem.run_bind, Sem.run_pure, Result.andThen_ok, List.map_toArray, List.map_cons, List.map_nil, hs, hx, hr]
  exact hK _ _ h
def z16 : List Value := List.replicate 16 (.int .u8 0)
/-- the first n bytes, and noughts. -/
def pad0 (f : Nat → Nat) (n : Nat) (i : Nat) : Nat := if i < n then f i else 0

set_option maxRecDepth 100000 in
set_option maxHeartbeats 2000000 in
theorem toBlock_c (p : Option Addr) (n cap : Nat) (f : Nat → Nat) (w : World) (S : Sl w p n f) (hn : n ≤ 16) (hf : ∀ i, i < n → f i < 256) :
    Calls Try.prog 18 #[.slice p n cap] w fun e w' => e = .returned (.agg (ac (pad0 f n) 16).toArray) ∧ Below w.heap.size w w' := by
  have WS := Lib.hid (balloc (balloc (brefl w) (.cells #[.int .u8 0, .int .u8 0, .int .u8 0, .int .u8 0, .int .u8 0, .int .u8 0, .int .u8 0, .int .u8 0, .int .u8 0, .int .u8 0, .int .u8 0, .int .u8 0, .int .u8 0, .int .u8 0, .int .u8 0, .int .u8 0] 38)) (.cells #[.int .u8 0, .int .u8 0, .int .u8 0, .int .u8 0, .int .u8 0, .int .u8 0, .int .u8 0, .int .u8 0, .int .u8 0, .int .u8 0, .int .u8 0, .int .u8 0, .int .u8 0, .int .u8 0, .int .u8 0, .int .u8 0] 38))
  have R0 := Lib.hid ((Ay.new0 w 16 38).below (balloc (brefl _) (.cells #[.int .u8 0, .int .u8 0, .int .u8 0, .int .u8 0, .int .u8 0, .int .u8 0, .int .u8 0, .int .u8 0, .int .u8 0, .int .u8 0, .int .u8 0, .int .u8 0, .int .u8 0, .int .u8 0, .int .u8 0, .int .u8 0] 38)))
  replace R0 : Hid (Ay ((w.alloc (.cells #[.int .u8 0, .int .u8 0, .int .u8 0, .int .u8 0, .int .u8 0, .int .u8 0, .int .u8 0, .int .u8 0, .int .u8 0, .int .u8 0, .int .u8 0, .int .u8 0, .int .u8 0, .int .u8 0, .int .u8 0, .int .u8 0] 38)).alloc (.cells #[.int .u8 0, .int .u8 0, .int .u8 0, .int .u8 0, .int .u8 0, .int .u8 0, .int .u8 0, .int .u8 0, .int .u8 0, .int .u8 0, .int .u8 0, .int .u8 0, .int .u8 0, .int .u8 0, .int .u8 0, .int .u8 0] 38)) w.heap.size 0 16 (fun _ => 0)) := R0
  have S0 := Lib.hid (S.below WS.out)
  have HG : Hid (((w.alloc (.cells #[.int .u8 0, .int .u8 0, .int .u8 0, .int .u8 0, .int .u8 0, .int .u8 0, .int .u8 0, .int .u8 0, .int .u8 0, .int .u8 0, .int .u8 0, .int .u8 0, .int .u8 0, .int .u8 0, .int .u8 0, .int .u8 0] 38)).alloc (.cells #[.int .u8 0, .int .u8 0, .int .u8 0, .int .u8 0, .int .u8 0, .int .u8 0, .int .u8 0, .int .u8 0, .int .u8 0, .int .u8 0, .int .u8 0, .int .u8 0, .int .u8 0, .int .u8 0, .int .u8 0, .int .u8 0] 38)).heap[w.heap.size + 1]? = some (.cells z16.toArray 38 (0, 0))) := Lib.hid (by
    have := heap_alloc_new (w.alloc (.cells #[.int .u8 0, .int .u8 0, .int .u8 0, .int .u8 0, .int .u8 0, .int .u8 0, .int .u8 0, .int .u8 0, .int .u8 0, .int .u8 0, .int .u8 0, .int .u8 0, .int .u8 0, .int .u8 0, .int .u8 0, .int .u8 0] 38)) (.cells #[.int .u8 0, .int .u8 0, .int .u8 0, .int .u8 0, .int .u8 0, .int .u8 0, .int .u8 0, .int .u8 0, .int .u8 0, .int .u8 0, .int .u8 0, .int .u8 0, .int .u8 0, .int .u8 0, .int .u8 0, .int .u8 0] 38)
    rw [sz_alloc] at this
    exact this)
  have HF := Lib.hid hf
  have LN : Hid ((ac f n).length = Nat.min n 16) := Lib.hid (by rw [ac_len]; exact (Nat.min_eq_left hn).symm)
  have FIT : Hid (0 + (ac f n).length ≤ z16.length) := Lib.hid (by rw [ac_len]; show 0 + n ≤ 16; omega)
  have ONE : Hid (∀ v ∈ ac f n, v.oneCell' = true) := Lib.hid (fun v hv => (Array.all_eq_true_iff_forall_mem.1 (ac_one f n)) v (by simpa using hv))
  have HS : Hid (∀ i, i < 16 → (splice z16 0 (ac f n))[i]? = some (.int .u8 ((pad0 f n i : Nat) : Int))) := Lib.hid (fun i hi => by
    unfold splice pad0
    rw [List.take_zero, List.nil_append, ac_len]
    by_cases c : i < n
    · rw [List.getElem?_append_left (by rw [ac_len]; exact c), ac_get c, if_pos c]
    · rw [List.getElem?_append_right (by rw [ac_len]; omega), ac_len, if_neg c]
      unfold z16
      rw [List.drop_replicate, List.getElem?_replicate, if_pos (by omega)]
      rfl)
  have CP : ∃ W1 m, (Builtin.copy_ #[22, 22] 3 #[.slice (some ⟨w.heap.size + 1, 0, none⟩) 16 16, .slice p n cap]).run Try.prog ((w.alloc (.cells #[.int .u8 0, .int .u8 0, .int .u8 0, .int .u8 0, .int .u8 0, .int .u8 0, .int .u8 0, .int .u8 0, .int .u8 0, .int .u8 0, .int .u8 0, .int .u8 0, .int .u8 0, .int .u8 0, .int .u8 0, .int .u8 0] 38)).alloc (.cells #[.int .u8 0, .int .u8 0, .int .u8 0, .int .u8 0, .int .u8 0, .int .u8 0, .int .u8 0, .int .u8 0, .int .u8 0, .int .u8 0, .int .u8 0, .int .u8 0, .int .u8 0, .int .u8 0, .int .u8 0, .int .u8 0] 38)) = .ok (goInt m) W1 ∧ Ay W1 (w.heap.size + 1) 0 16 (pad0 f n) ∧ Below (w.heap.size + 1) ((w.alloc (.cells #[.int .u8 0, .int .u8 0, .int .u8 0, .int .u8 0, .int .u8 0, .int .u8 0, .int .u8 0, .int .u8 0, .int .u8 0, .int .u8 0, .int .u8 0, .int .u8 0, .int .u8 0, .int .u8 0, .int .u8 0, .int .u8 0] 38)).alloc (.cells #[.int .u8 0, .int .u8 0, .int .u8 0, .int .u8 0, .int .u8 0, .int .u8 0, .int .u8 0, .int .u8 0, .int .u8 0, .int .u8 0, .int .u8 0, .int .u8 0, .int .u8 0, .int .u8 0, .int .u8 0, .int .u8 0] 38)) W1 := by
    have PL : ∀ i, i < 16 → pad0 f n i < 256 := fun i _ => by
      unfold pad0
      split
      · exact hf i (by assumption)
      · omega
    by_cases h0 : n = 0
    · subst h0
      have hr := run_copy_none (P := Try.prog) ((w.alloc (.cells #[.int .u8 0, .int .u8 0, .int .u8 0, .int .u8 0, .int .u8 0, .int .u8 0, .int .u8 0, .int .u8 0, .int .u8 0, .int .u8 0, .int .u8 0, .int .u8 0, .int .u8 0, .int .u8 0, .int .u8 0, .int .u8 0] 38)).alloc (.cells #[.int .u8 0, .int .u8 0, .int .u8 0, .int .u8 0, .int .u8 0, .int .u8 0, .int .u8 0, .int .u8 0, .int .u8 0, .int .u8 0, .int .u8 0, .int .u8 0, .int .u8 0, .int .u8 0, .int .u8 0, .int .u8 0] 38)) 22 22 3 5 (some ⟨w.heap.size + 1, 0, none⟩) p 16 16 0 cap Try.underlying22 (by kernel_rfl) (by simp)
      refine ⟨_, 0, hr, ⟨Nat.lt_of_lt_of_le (Nat.lt_succ_self _) (by simp), PL, fun i hi => ?_⟩, Below.refl _ _⟩
      obtain ⟨c1, c2⟩ := cell_row HG.out i
      rw [Nat.zero_add, c1, c2]
      refine ⟨?_, rfl⟩
      have := HS.out i hi
      rwa [show splice z16 0 (ac f 0) = z16 from rfl] at this
    · obtain ⟨b, o, hp, B⟩ := S0.out (by omega)
      subst hp
      have hr := run_copy_row (P := Try.prog) ((w.alloc (.cells #[.int .u8 0, .int .u8 0, .int .u8 0, .int .u8 0, .int .u8 0, .int .u8 0, .int .u8 0, .int .u8 0, .int .u8 0, .int .u8 0, .int .u8 0, .int .u8 0, .int .u8 0, .int .u8 0, .int .u8 0, .int .u8 0] 38)).alloc (.cells #[.int .u8 0, .int .u8 0, .int .u8 0, .int .u8 0, .int .u8 0, .int .u8 0, .int .u8 0, .int .u8 0, .int .u8 0, .int .u8 0, .int .u8 0, .int .u8 0, .int .u8 0, .int .u8 0, .int .u8 0, .int .u8 0] 38)) 22 22 3 5 (w.heap.size + 1) 0 16 16 ⟨b, o, none⟩ n cap z16.toArray 38 (ac f n) Try.underlying22 (by kernel_rfl) HG.out LN.out
        (fun j v hv => by
          have hj : j < n := by have := (List.getElem?_eq_some_iff.1 hv).1; rwa [ac_len] at this
          rw [ac_get hj] at hv
          rw [← hv, Addr.add_mid]
          exact B.2.2 j hj) (by simpa using FIT.out) ONE.out
      have e : (z16.toArray.toList.take 0 ++ ac f n ++ z16.toArray.toList.drop (0 + (ac f n).length)) = splice z16 0 (ac f n) := by simp [splice]
      rw [e] at hr
      have HH := setRow_heap _ _ _ (splice z16 0 (ac f n)).toArray _ _ HG.out
      refine ⟨_, _, hr, ⟨by simp [World.setRow], PL, fun i hi => ?_⟩, below_setRow (Below.refl _ _) (Nat.le_refl _) _⟩
      obtain ⟨c1, c2⟩ := cell_row HH i
      rw [Nat.zero_add, c1, c2]
      exact ⟨HS.out i hi, rfl⟩
  clear hf S HG LN FIT ONE HS
  obtain ⟨W1, m, hc0, ay, bw⟩ := CP
  have HC := Lib.hid hc0
  clear hc0
  have AY := Lib.hid ay
  have BW := Lib.hid bw
  have RW := Lib.hid (R0.out.belowB (by omega) bw)
  clear ay bw
  go_enter Try.func18, Try.ntmps18
  have VL : ∀ i, i < 16 → pad0 f n i < 256 := AY.out.2.1
  have FI := Lib.hid (Ay.mk_cells (g := pad0 f n) RW.out.1 RW.out.there VL)
  have FB := Lib.hid (belowCells (B := w.heap.size) w.heap.size (Nat.le_refl _) (ac (pad0 f n) 16) 0 W1 (WS.out.trans (BW.out.mono (by omega))))
  have SE := run_store_ac (P := Try.prog) RW.out.there (pad0 f n)
  go_wp2_with (first | refine wpList_copy_eq rfl (.tmp 4) (.tmp 5) 22 rfl _ _ (goInt m) W1 rfl rfl HC.out ?_ | refine wpList_load_mid rfl 38 _ rfl _ 0 rfl (ac (pad0 f n) 16) _ AY.out.range Try.underlying38 rfl (by rw [ac_len]; exact info_blk) ?_)
  refine bodyPost_ret (v := .agg (ac (pad0 f n) 16).toArray) (results_cell_mid rfl _ _ w.heap.size _ _ rfl FI.out.range Try.underlying38 rfl (by rw [ac_len]; exact info_blk)) rfl ⟨rfl, FB.out⟩
end Go.Proofs.Ytfefkakdhaecpaa.Ae
