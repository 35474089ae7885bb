/-
  A guard by a table that is moved: bits, the best rule, the host that is brought to the front; in pure form.
  Conditions: none.
-/
import Derived.Test.YtdngoopogajhiaaGuP
namespace Go.Proofs.Ytdngoopogajhiaa.Gu
set_option linter.unusedVariables false
set_option linter.unusedSimpArgs false

theorem bv_not (x y : BitVec 32) : x &&& ~~~y = 0#32 ↔ x &&& y = x := by
  constructor
  · intro h
    apply BitVec.eq_of_getLsbD_eq
    intro i hi
    have q := congrArg (fun z => BitVec.getLsbD z i) h
    rw [BitVec.getLsbD_and]
    simp only [BitVec.getLsbD_and, BitVec.getLsbD_not, hi, decide_true, Bool.true_and, BitVec.getLsbD_zero] at q
    revert q
    cases x.getLsbD i <;> cases y.getLsbD i <;> decide
  · intro h
    apply BitVec.eq_of_getLsbD_eq
    intro i hi
    have q := congrArg (fun z => BitVec.getLsbD z i) h
    simp only [BitVec.getLsbD_and] at q
    simp only [BitVec.getLsbD_and, BitVec.getLsbD_not, hi, decide_true, Bool.true_and, BitVec.getLsbD_zero]
    revert q
    cases x.getLsbD i <;> cases y.getLsbD i <;> decide
theorem wrap32 (n : Nat) (h : n < 4294967296) : IntKind.u32.wrap (n : Int) = n := by
  simp only [IntKind.wrap, IntKind.bits, IntKind.signed]
  simp
  omega
theorem of32 {a : Int} (h : 0 ≤ a ∧ a ≤ 4294967295) : ((BitVec.ofInt 32 a).toNat : Int) = a := by
  rw [BitVec.toNat_ofInt]
  omega
theorem nb_iff {a m : Int} (ha : 0 ≤ a ∧ a ≤ 4294967295) : bits BinOp.andNot IntKind.u32 a m = 0 ↔ an a m = a := by
  have e1 : bits BinOp.andNot IntKind.u32 a m = ((BitVec.ofInt 32 a &&& ~~~(BitVec.ofInt 32 m)).toNat : Int) := by
    show IntKind.u32.wrap _ = _
    exact wrap32 _ (BitVec.isLt _)
  have e2 : an a m = ((BitVec.ofInt 32 a &&& BitVec.ofInt 32 m).toNat : Int) := by
    show IntKind.u32.wrap _ = _
    exact wrap32 _ (BitVec.isLt _)
  have e3 := of32 ha
  rw [e1, e2]
  have k := bv_not (BitVec.ofInt 32 a) (BitVec.ofInt 32 m)
  generalize BitVec.ofInt 32 a = x at *
  generalize BitVec.ofInt 32 m = y at *
  constructor
  · intro h
    have : x &&& ~~~y = 0#32 := BitVec.eq_of_toNat_eq (by simpa using h)
    rw [k.1 this]
    exact e3
  · intro h
    have : x &&& y = x := BitVec.eq_of_toNat_eq (by omega)
    rw [k.2 this]
    rfl
/-- a rule that isn't right, as the program asks. -/
def badR (r : Ru) : Prop := bits BinOp.andNot IntKind.u32 r.addr r.mask ≠ 0 ∨ r.flags < 0 ∨ 127 < r.flags
theorem bad_iff {r : Ru} (h : uR r) : badR r ↔ ¬ okR r := by
  unfold badR okR
  rw [ne_eq, nb_iff h.1]
  omega
theorem hb1 : ∀ f : Fin 128, (bits BinOp.and IntKind.i64 (f.val : Int) 1 != 0) = hasF f.val 1 := by decide +kernel
theorem hb2 : ∀ f : Fin 128, (bits BinOp.and IntKind.i64 (f.val : Int) 2 != 0) = hasF f.val 2 := by decide +kernel
theorem hb4 : ∀ f : Fin 128, (bits BinOp.and IntKind.i64 (f.val : Int) 4 == 0) = !hasF f.val 4 := by decide +kernel
theorem hb32 : ∀ f : Fin 128, (bits BinOp.and IntKind.i64 (f.val : Int) 32 != 0) = hasF f.val 32 := by decide +kernel
theorem hb64 : ∀ f : Fin 128, (bits BinOp.and IntKind.i64 (f.val : Int) 64 != 0) = hasF f.val 64 := by decide +kernel
theorem hbs {f : Int} (h : 0 ≤ f ∧ f ≤ 127) : (bits BinOp.and IntKind.i64 f 1 != 0) = hasF f 1 ∧ (bits BinOp.and IntKind.i64 f 2 != 0) = hasF f 2 ∧ (bits BinOp.and IntKind.i64 f 4 == 0) = (!hasF f 4) ∧ (bits BinOp.and IntKind.i64 f 32 != 0) = hasF f 32 ∧ (bits BinOp.and IntKind.i64 f 64 != 0) = hasF f 64 := by
  obtain ⟨n, rfl⟩ := Int.eq_ofNat_of_zero_le h.1
  have l : n < 128 := by omega
  exact ⟨hb1 ⟨n, l⟩, hb2 ⟨n, l⟩, hb4 ⟨n, l⟩, hb32 ⟨n, l⟩, hb64 ⟨n, l⟩⟩
/-- what is answered about the time. -/
def tv (f : Int) (q : Bool) : Int := if hasF f 2 = true then (if hasF f 64 = true then 2 else 1) else if hasF f 32 = true ∧ q = true then (if hasF f 64 = true then 3 else 1) else 0
/-- the best rule so far, or one of nothing. -/
def bR (o : Option Ru) : Ru := o.getD ⟨0, 0, 0⟩
theorem bR_flags (o : Option Ru) : (bR o).flags = flO o := by cases o <;> rfl
theorem bR_yes {a : Int} {o : Option Ru} {r : Ru} (h : an a r.mask = r.addr) (g : (bR o).mask ≤ r.mask) : bR (pkB a o r) = r := by
  unfold pkB
  rw [if_pos ⟨h, by cases o with | none => rfl | some x => exact decide_eq_true g⟩]
  rfl
theorem bR_no {a : Int} {o : Option Ru} {r : Ru} (h0 : 0 ≤ r.mask) (h : ¬ (an a r.mask = r.addr ∧ (bR o).mask ≤ r.mask)) : bR (pkB a o r) = bR o := by
  unfold pkB
  split
  · rename_i q
    exfalso
    refine h ⟨q.1, ?_⟩
    cases o with
    | none => exact h0
    | some x => exact of_decide_eq_true q.2
  · rfl
/-- without the host at p. -/
def mv (p : Nat) (H : List Ho) : List Ho := H.take p ++ H.drop (p + 1)
theorem mv_at (p : Nat) (H : List Ho) (hp : p ≤ H.length) (j : Nat) : (mv p H)[j]? = if j < p then H[j]? else H[j + 1]? := by
  unfold mv
  by_cases c : j < p
  · rw [if_pos c, List.getElem?_append_left (by rw [List.length_take]; omega), List.getElem?_take_of_lt c]
  · rw [if_neg c, List.getElem?_append_right (by rw [List.length_take]; omega), List.length_take, Nat.min_eq_left hp, List.getElem?_drop]
    congr 1
    omega
/-- where the host stands. -/
def Fx (a : Int) (H : List Ho) (r : Int) : Prop := (∃ (p : Nat) (x : Ho), r = (p : Int) ∧ H[p]? = some x ∧ x.addr = a) ∨ (r = -1 ∧ ∀ x ∈ H, x.addr ≠ a)
theorem rest_all {a : Int} {H : List Ho} (h : ∀ x ∈ H, x.addr ≠ a) : rest a H = H := List.filter_eq_self.2 fun x hx => by simpa using h x hx
theorem fold_none {a raw : Int} : ∀ {H : List Ho} {g : Ho}, (∀ x ∈ H, x.addr ≠ a) → H.foldl (hs1 a raw) g = g
  | [], _, _ => rfl
  | x :: r, g, h => by
    rw [List.foldl_cons, show hs1 a raw g x = g by unfold hs1; rw [if_neg (h x (List.mem_cons_self ..))]]
    exact fold_none fun y hy => h y (List.mem_cons_of_mem _ hy)
/-- brought to the front: the host as it was, or a new one, and the others. -/
def Bf (a raw : Int) (H : List Ho) (h : Ho) (T : List Ho) : Prop := T.length ≤ 15 ∧ h.addr = a ∧ seeH a raw H = ⟨a, raw, h.count + 1, min (max (h.score - (raw - h.last)) 0 + 8388608) 33554432⟩ :: T ∧ fast a raw H = decide (33554432 < max (h.score - (raw - h.last)) 0 + 8388608)
theorem bf_new {a raw : Int} {H : List Ho} (h : ∀ x ∈ H, x.addr ≠ a) (hl : H.length ≤ 16) : Bf a raw H ⟨a, raw, 0, 0⟩ (mv (min H.length 15) H) := by
  have e1 : hst a raw H = ⟨a, raw, 1, 8388608⟩ := fold_none h
  have e2 : rest a H = H := rest_all h
  have e3 : mv (min H.length 15) H = H.take 15 := by
    unfold mv
    by_cases c : H.length ≤ 15
    · rw [Nat.min_eq_left c, List.take_of_length_le (Nat.le_refl _), List.drop_of_length_le (by omega), List.append_nil, List.take_of_length_le c]
    · rw [Nat.min_eq_right (by omega), List.drop_of_length_le (by omega), List.append_nil]
  have e4 : max ((0 : Int) - (raw - raw)) 0 + 8388608 = 8388608 := by omega
  refine ⟨by rw [e3, List.length_take]; omega, rfl, ?_, ?_⟩
  · unfold seeH frt
    rw [e1, e2, e3]
    simp only [e4]
    rfl
  · unfold fast
    rw [e1]
    simp only [e4]
theorem bf_old {a raw : Int} {H : List Ho} (hn : (H.map Ho.addr).Nodup) (hl : H.length ≤ 16) {p : Nat} {x : Ho} (hp : H[p]? = some x) (hx : x.addr = a) : Bf a raw H x (mv p H) := by
  obtain ⟨l, ex⟩ := List.getElem?_eq_some_iff.1 hp
  have e0 : H = H.take p ++ x :: H.drop (p + 1) := by
    rw [← ex, List.getElem_cons_drop, List.take_append_drop]
  have n0 := hn
  rw [e0, List.map_append, List.map_cons, List.nodup_append] at n0
  obtain ⟨_, n2, n3⟩ := n0
  have q1 : ∀ y ∈ H.take p, y.addr ≠ a := fun y hy e => n3 y.addr (List.mem_map_of_mem hy) x.addr (List.mem_cons_self ..) (by rw [e, hx])
  have q2 : ∀ y ∈ H.drop (p + 1), y.addr ≠ a := fun y hy e => (List.nodup_cons.1 n2).1 (by rw [hx, ← e]; exact List.mem_map_of_mem hy)
  have e1 : hst a raw H = ⟨a, raw, x.count + 1, max (x.score - (raw - x.last)) 0 + 8388608⟩ := by
    unfold hst
    rw [e0, List.foldl_append, List.foldl_cons, fold_none q1, fold_none q2]
    unfold hs1
    rw [if_pos hx]
  have e2 : rest a H = mv p H := by
    unfold mv
    conv => lhs; rw [e0]
    unfold rest
    rw [List.filter_append, List.filter_cons_of_neg (by simpa using hx)]
    have r1 := rest_all q1
    have r2 := rest_all q2
    unfold rest at r1 r2
    rw [r1, r2]
  have e5 : (mv p H).length ≤ 15 := by
    unfold mv
    rw [List.length_append, List.length_take, List.length_drop]
    omega
  refine ⟨e5, hx, ?_, ?_⟩
  · unfold seeH frt
    rw [e1, e2, List.take_of_length_le e5]
  · unfold fast
    rw [e1]
end Go.Proofs.Ytdngoopogajhiaa.Gu
