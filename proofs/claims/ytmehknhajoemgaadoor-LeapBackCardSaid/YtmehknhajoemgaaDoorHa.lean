/-
  Words of 32 bits: what the bitwise operators make of them, in numbers and in bits; or of what does not overlap is a sum; and the contracts of sundialref04.left, right and mdStep.
  Conditions: the arguments are of their kinds.
  The contracts of sundialref04.left, right and mdStep.
  Conditions: the arguments are of their kinds; rotations go from 1 to 31.
  Bytes that lie in memory, and the contract of sundialref04.word: four bytes from a place on, as a word.
  Conditions: the four bytes are there.
  A byte appended to a slice of the call's own; the contract of sundialref04.pad: bytes padded to blocks.
  Conditions: no more than 2^47 - 4096 bytes.
  The contract of sundialref04.pad: bytes padded to blocks, in a slice of the call's own.
  Conditions: no more than 2^47 - 4096 bytes.
-/
import Derived.Test.YtmehknhajoemgaaDoorProg
import Derived.WalkKit
import Derived.WalkLawsBesides
import Derived.Lib.Hide
import Derived.BigQuiet
import Derived.Maps.AppendAt
import Derived.Laws.OwnMore
import Derived.OwnWalk
import Derived.Deep.Upon
import Derived.KernelRfl
namespace Go.Proofs.YtmehknhajoemgaaDoor.Hs
open Go.RowKit
set_option linter.unusedVariables false
set_option linter.unusedSimpArgs false

theorem wrap32 (n : Nat) (h : n < 4294967296) : IntKind.u32.wrap (n : Int) = n := by
  simp only [IntKind.wrap, IntKind.bits, IntKind.signed]
  simp
  omega
theorem of32 (a : Nat) (h : a < 4294967296) : (BitVec.ofInt 32 (a : Int)).toNat = a := by
  rw [BitVec.toNat_ofInt]
  simp
  omega
theorem or_nat (a b : Nat) (ha : a < 4294967296) (hb : b < 4294967296) : bits BinOp.or IntKind.u32 (a : Int) (b : Int) = ((a ||| b : Nat) : Int) := by
  have h : a ||| b < 4294967296 := Nat.or_lt_two_pow (n := 32) ha hb
  show IntKind.u32.wrap (((BitVec.ofInt 32 (a : Int)) ||| (BitVec.ofInt 32 (b : Int))).toNat : Int) = _
  rw [BitVec.toNat_or, of32 a ha, of32 b hb, wrap32 _ h]
theorem and_nat (a b : Nat) (ha : a < 4294967296) (hb : b < 4294967296) : bits BinOp.and IntKind.u32 (a : Int) (b : Int) = ((a &&& b : Nat) : Int) := by
  have h : a &&& b < 4294967296 := Nat.lt_of_le_of_lt Nat.and_le_left ha
  show IntKind.u32.wrap (((BitVec.ofInt 32 (a : Int)) &&& (BitVec.ofInt 32 (b : Int))).toNat : Int) = _
  rw [BitVec.toNat_and, of32 a ha, of32 b hb, wrap32 _ h]
theorem xor_nat (a b : Nat) (ha : a < 4294967296) (hb : b < 4294967296) : bits BinOp.xor IntKind.u32 (a : Int) (b : Int) = ((a ^^^ b : Nat) : Int) := by
  have h : a ^^^ b < 4294967296 := Nat.xor_lt_two_pow (n := 32) ha hb
  show IntKind.u32.wrap (((BitVec.ofInt 32 (a : Int)) ^^^ (BitVec.ofInt 32 (b : Int))).toNat : Int) = _
  rw [BitVec.toNat_xor, of32 a ha, of32 b hb, wrap32 _ h]
theorem max32 : IntKind.u32.max = ((4294967295 : Nat) : Int) := by decide
/-- a multiple of 2^k, or what is less than 2^k: their sum. -/
theorem or_add (k q r : Nat) (h : r < 2 ^ k) (hs : 2 ^ k * q + r < 4294967296) : bits BinOp.or IntKind.u32 ((2 ^ k * q : Nat) : Int) (r : Int) = ((2 ^ k * q + r : Nat) : Int) := by
  rw [or_nat _ _ (by omega) (by omega), Nat.two_pow_add_eq_or_of_lt h]
theorem or_add' (k q r : Nat) (h : r < 2 ^ k) (hs : 2 ^ k * q + r < 4294967296) : bits BinOp.or IntKind.u32 (r : Int) ((2 ^ k * q : Nat) : Int) = ((2 ^ k * q + r : Nat) : Int) := by
  rw [or_nat _ _ (by omega) (by omega), Nat.or_comm, Nat.two_pow_add_eq_or_of_lt h]

/-- a word. -/
def isW (x : Int) : Prop := 0 ≤ x ∧ x < 4294967296
theorem isW.nat {x : Int} (h : isW x) : ∃ n : Nat, n < 4294967296 ∧ x = n := ⟨x.toNat, by have := h.1; have := h.2; omega, by have := h.1; omega⟩
/-- rotated to the left by n, from 1 to 31. -/
def rol (x n : Nat) : Nat := x * 2 ^ n % 4294967296 + x / 2 ^ (32 - n)
theorem rol_or (x n : Nat) (hx : x < 4294967296) (h1 : 1 ≤ n) (h2 : n ≤ 31) :
    bits BinOp.or IntKind.u32 ((x * 2 ^ n % 4294967296 : Nat) : Int) ((x / 2 ^ (32 - n) : Nat) : Int) = (rol x n : Int) ∧ rol x n < 4294967296 := by
  have e : (4294967296 : Nat) = 2 ^ n * 2 ^ (32 - n) := by rw [← Nat.pow_add, show n + (32 - n) = 32 from by omega]
  have m : x * 2 ^ n % 4294967296 = 2 ^ n * (x % 2 ^ (32 - n)) := by rw [e, Nat.mul_comm x, Nat.mul_mod_mul_left]
  have r : x / 2 ^ (32 - n) < 2 ^ n := Nat.div_lt_of_lt_mul (by rw [Nat.mul_comm, ← e]; exact hx)
  have q : x % 2 ^ (32 - n) < 2 ^ (32 - n) := Nat.mod_lt _ (Nat.pow_pos (by omega))
  have s : 2 ^ n * (x % 2 ^ (32 - n)) + x / 2 ^ (32 - n) < 4294967296 := by
    have : 2 ^ n * (x % 2 ^ (32 - n) + 1) ≤ 2 ^ n * 2 ^ (32 - n) := Nat.mul_le_mul_left _ q
    rw [← e, Nat.mul_add] at this
    omega
  unfold rol
  rw [m]
  exact ⟨or_add n _ _ r s, s⟩
end Go.Proofs.YtmehknhajoemgaaDoor.Hs
namespace Go.Proofs.YtmehknhajoemgaaDoor.Hs
open Go.RowKit
set_option linter.unusedVariables false
set_option linter.unusedSimpArgs false

theorem or_comm32 (a b : Nat) (ha : a < 4294967296) (hb : b < 4294967296) : bits BinOp.or IntKind.u32 (a : Int) (b : Int) = bits BinOp.or IntKind.u32 (b : Int) (a : Int) := by
  rw [or_nat a b ha hb, or_nat b a hb ha, Nat.or_comm]
theorem ret_w {a b : Int} (h : a = b) : Ending.returned (.int .u32 a) = .returned (.int .u32 b) := by rw [h]

/-- rotated to the right. -/
def ror (x n : Nat) : Nat := rol x (32 - n)
/-- MD5's F and g. -/
def mF (i b c d : Nat) : Nat := if i < 16 then (b &&& c) ||| ((4294967295 ^^^ b) &&& d) else if i < 32 then (d &&& b) ||| ((4294967295 ^^^ d) &&& c) else if i < 48 then b ^^^ c ^^^ d else c ^^^ (b ||| (4294967295 ^^^ d))
def mG (i : Nat) : Nat := if i < 16 then i else if i < 32 then (5 * i + 1) % 16 else if i < 48 then (3 * i + 5) % 16 else 7 * i % 16
theorem lt_and {a b : Nat} (h : a < 4294967296) : a &&& b < 4294967296 := Nat.lt_of_le_of_lt Nat.and_le_left h
theorem lt_or {a b : Nat} (h : a < 4294967296) (h' : b < 4294967296) : a ||| b < 4294967296 := Nat.or_lt_two_pow (n := 32) h h'
theorem lt_xor {a b : Nat} (h : a < 4294967296) (h' : b < 4294967296) : a ^^^ b < 4294967296 := Nat.xor_lt_two_pow (n := 32) h h'
theorem mF_lt (i : Nat) {b c d : Nat} (hb : b < 4294967296) (hc : c < 4294967296) (hd : d < 4294967296) : mF i b c d < 4294967296 := by
  have M : 4294967295 < 4294967296 := by omega
  unfold mF
  split
  · exact lt_or (lt_and hb) (lt_and (lt_xor M hb))
  · split
    · exact lt_or (lt_and hd) (lt_and (lt_xor M hd))
    · split
      · exact lt_xor (lt_xor hb hc) hd
      · exact lt_xor hc (lt_or hb (lt_xor M hd))
theorem mG_lt (i : Nat) : mG i < 16 := by unfold mG; (repeat' split) <;> omega

theorem step_eqs (b c d : Nat) (hb : b < 4294967296) (hc : c < 4294967296) (hd : d < 4294967296) :
    bits BinOp.or IntKind.u32 (bits BinOp.and IntKind.u32 (b : Int) (c : Int)) (bits BinOp.and IntKind.u32 (bits BinOp.xor IntKind.u32 IntKind.u32.max (b : Int)) (d : Int)) = (((b &&& c) ||| ((4294967295 ^^^ b) &&& d) : Nat) : Int)
    ∧ bits BinOp.xor IntKind.u32 (bits BinOp.xor IntKind.u32 (b : Int) (c : Int)) (d : Int) = ((b ^^^ c ^^^ d : Nat) : Int)
    ∧ bits BinOp.xor IntKind.u32 (c : Int) (bits BinOp.or IntKind.u32 (b : Int) (bits BinOp.xor IntKind.u32 IntKind.u32.max (d : Int))) = ((c ^^^ (b ||| (4294967295 ^^^ d)) : Nat) : Int) := by
  have M : 4294967295 < 4294967296 := by omega
  rw [max32, and_nat b c hb hc, xor_nat _ b M hb, xor_nat _ d M hd, and_nat _ d (lt_xor M hb) hd, or_nat _ _ (lt_and hb) (lt_and (lt_xor M hb)), xor_nat b c hb hc, xor_nat _ d (lt_xor hb hc) hd, or_nat b _ hb (lt_xor M hd), xor_nat c _ hc (lt_or hb (lt_xor M hd))]
  exact ⟨rfl, rfl, rfl⟩
theorem ret_wi {a b p q : Int} (h : a = b) (h' : p = q) : Ending.returned (.tuple #[.int .u32 a, .int .i64 p]) = .returned (.tuple #[.int .u32 b, .int .i64 q]) := by rw [h, h']

end Go.Proofs.YtmehknhajoemgaaDoor.Hs
namespace Go.Proofs.YtmehknhajoemgaaDoor.Hs
open Go.RowKit
set_option linter.unusedVariables false
set_option linter.unusedSimpArgs false

/-- n bytes begin at b, off: byte i is f i. -/
def Bs (w : World) (b off n : Nat) (f : Nat → Nat) : Prop :=
  b < w.heap.size ∧ (∀ i, f i < 256) ∧ ∀ i, i < n → w.cell? ⟨b, off + i, none⟩ = some (.int .u8 (f i))
theorem Bs.below {w w' : World} {b off n : Nat} {f : Nat → Nat} (h : Bs w b off n f) (k : Below w.heap.size w w') : Bs w' b off n f :=
  ⟨Nat.lt_of_lt_of_le h.1 k.size, h.2.1, fun i hi => (k.cell (p := ⟨b, off + i, none⟩) h.1).trans (h.2.2 i hi)⟩

/-- the first k of four bytes, as far as they make the word. -/
def wl (f : Nat → Nat) (at' : Nat) : Nat → Nat
  | 0 => 0
  | k + 1 => wl f at' k + f (at' + k) * 2 ^ (8 * k)
def wh (f : Nat → Nat) (at' : Nat) : Nat → Nat
  | 0 => 0
  | k + 1 => wh f at' k + f (at' + k) * 2 ^ (24 - 8 * k)
def wrd (low : Bool) (f : Nat → Nat) (at' : Nat) : Nat := if low then wl f at' 4 else wh f at' 4
theorem wl_lt (f : Nat → Nat) (hf : ∀ i, f i < 256) (at' : Nat) : ∀ k, wl f at' k < 2 ^ (8 * k)
  | 0 => by simp [wl]
  | k + 1 => by
    have a := wl_lt f hf at' k
    have b := hf (at' + k)
    have c : f (at' + k) * 2 ^ (8 * k) ≤ 255 * 2 ^ (8 * k) := Nat.mul_le_mul_right _ (by omega)
    simp only [wl]
    rw [show 8 * (k + 1) = 8 * k + 8 from by omega, Nat.pow_add]
    omega
theorem wh_mul (f : Nat → Nat) (at' : Nat) : ∀ k, k ≤ 4 → ∃ q, wh f at' k = 2 ^ (32 - 8 * k) * q
  | 0, _ => ⟨0, by simp [wh]⟩
  | k + 1, h => by
    obtain ⟨q, e⟩ := wh_mul f at' k (by omega)
    refine ⟨2 ^ 8 * q + f (at' + k), ?_⟩
    simp only [wh]
    rw [e, Nat.mul_add, ← Nat.mul_assoc, ← Nat.pow_add, show 32 - 8 * (k + 1) + 8 = 32 - 8 * k from by omega, Nat.mul_comm (f _), show 32 - 8 * (k + 1) = 24 - 8 * k from by omega]
theorem wh_lt (f : Nat → Nat) (hf : ∀ i, f i < 256) (at' : Nat) : ∀ k, k ≤ 4 → wh f at' k + 2 ^ (32 - 8 * k) ≤ 4294967296
  | 0, _ => by simp [wh]
  | k + 1, h => by
    have a := wh_lt f hf at' k (by omega)
    have b := hf (at' + k)
    have c : f (at' + k) * 2 ^ (24 - 8 * k) ≤ 255 * 2 ^ (24 - 8 * k) := Nat.mul_le_mul_right _ (by omega)
    simp only [wh]
    rw [show 32 - 8 * k = (24 - 8 * k) + 8 from by omega, Nat.pow_add] at a
    rw [show 32 - 8 * (k + 1) = 24 - 8 * k from by omega]
    omega
theorem wrd_lt (low : Bool) (f : Nat → Nat) (hf : ∀ i, f i < 256) (at' : Nat) : wrd low f at' < 4294967296 := by
  have a := wl_lt f hf at' 4
  have b := wh_lt f hf at' 4 (by omega)
  unfold wrd
  split <;> simp at * <;> omega
theorem low_step (f : Nat → Nat) (hf : ∀ i, f i < 256) (at' k : Nat) (hk : k < 4) :
    bits BinOp.or IntKind.u32 (wl f at' k : Int) ((f (at' + k) : Int) * 2 ^ (8 * k) % 4294967296) = (wl f at' (k + 1) : Int) := by
  have a := wl_lt f hf at' k
  have b := wl_lt f hf at' (k + 1)
  have b' : wl f at' (k + 1) < 4294967296 := Nat.lt_of_lt_of_le b (by rw [show (4294967296 : Nat) = 2 ^ 32 from rfl]; exact Nat.pow_le_pow_right (by omega) (by omega))
  simp only [wl] at b' ⊢
  have e : (f (at' + k) : Int) * 2 ^ (8 * k) % 4294967296 = ((2 ^ (8 * k) * f (at' + k) : Nat) : Int) := by
    rw [Nat.mul_comm (2 ^ (8 * k))]
    have : f (at' + k) * 2 ^ (8 * k) < 4294967296 := by omega
    rw [show (f (at' + k) : Int) * 2 ^ (8 * k) = ((f (at' + k) * 2 ^ (8 * k) : Nat) : Int) from by simp]
    omega
  rw [e, or_add' (8 * k) (f (at' + k)) (wl f at' k) a (by rw [Nat.mul_comm]; omega), Nat.mul_comm, Nat.add_comm]
theorem high_step (f : Nat → Nat) (hf : ∀ i, f i < 256) (at' k : Nat) (hk : k < 4) :
    bits BinOp.or IntKind.u32 (wh f at' k : Int) ((f (at' + k) : Int) * 2 ^ (24 - 8 * k) % 4294967296) = (wh f at' (k + 1) : Int) := by
  obtain ⟨q, eq⟩ := wh_mul f at' k (by omega)
  have a := wh_lt f hf at' k (by omega)
  have b := hf (at' + k)
  have c : f (at' + k) * 2 ^ (24 - 8 * k) < 2 ^ (32 - 8 * k) := by
    rw [show 32 - 8 * k = 8 + (24 - 8 * k) from by omega, Nat.pow_add]
    exact Nat.mul_lt_mul_of_pos_right b (Nat.pow_pos (by omega))
  have e : (f (at' + k) : Int) * 2 ^ (24 - 8 * k) % 4294967296 = ((f (at' + k) * 2 ^ (24 - 8 * k) : Nat) : Int) := by
    rw [show (f (at' + k) : Int) * 2 ^ (24 - 8 * k) = ((f (at' + k) * 2 ^ (24 - 8 * k) : Nat) : Int) from by simp]
    omega
  simp only [wh]
  rw [e, eq] at *
  rw [or_add (32 - 8 * k) q _ c (by omega)]

end Go.Proofs.YtmehknhajoemgaaDoor.Hs
namespace Go.Proofs.YtmehknhajoemgaaDoor.Hs
open Go.RowKit
set_option linter.unusedVariables false
set_option linter.unusedSimpArgs false

/-- an append whose outcome is known. -/
theorem wpList_append_eq {P : Program} {w : World} {ops : Array Oper} {rest : List Oper} {o : Oper} {a : Act} {Q : Exit → Act → World → Prop} (hgd : o.guard = none) (s x : Operand) (t : TypeId)
    (ho : o.op = .call { callee := .builtin .append, args := #[s, x], argTypes := #[t, t] }) (v xv v' : Value) (w' : World) (hs : a.eval s = v) (hx : a.eval x = xv)
    (hr : (Builtin.append_ #[t, t] o.type #[v, xv]).run P w = .ok v' w') (h : wpList P ops Q rest (a.put o.dst v') w') : wpList P ops Q (o :: rest) a w := by
  refine wpList_plain hgd fun K hK => ?_
  unfold Oper.wp execOp
  simp only [ho, resolve, invoke, builtin, Sem.run_bind, Sem.run_pure, Result.andThen_ok, List.map_toArray, List.map_cons, List.map_nil, hs, hx, hr]
  exact hK _ _ h
theorem info_u8 : (Tryd.prog.info? 5).map (fun i => (i.zero, i.size, i.bytes)) = some (some (.int .u8 0), 1, 1) := by kernel_rfl
/-- bytes as cells. -/
def cl (l : List Nat) : List Value := l.map fun (x : Nat) => Value.int .u8 (x : Int)
theorem cl_len (l : List Nat) : (cl l).length = l.length := by simp [cl]
theorem cl_app (l k : List Nat) : cl (l ++ k) = cl l ++ cl k := by simp [cl]
theorem cl_one (l : List Nat) : ∀ u ∈ cl l, u.oneCell' = true := by
  intro u hu
  simp only [cl, List.mem_map] at hu
  obtain ⟨x, _, rfl⟩ := hu
  rfl
/-- v is a slice of the call's own that holds just these bytes. -/
def Own (w : World) (base : Nat) (v : Value) (l : List Nat) : Prop := w.ownsRow base 5 1 v l.length (cl l)
theorem Own.block {w : World} {base : Nat} {v : Value} {l : List Nat} (h : Own w base v l) : ∀ k, v.ownBlock = some k → base ≤ k := by
  intro k hk
  rcases h.2 with ⟨rfl, _⟩ | ⟨g, cap, cur, rfl, hb, _⟩
  · simp [Value.ownBlock] at hk
  · simp [Value.ownBlock] at hk
    omega
theorem Own.form {w : World} {base : Nat} {v : Value} {l : List Nat} (h : Own w base v l) (hl : 0 < l.length) : ∃ g cap, v = .slice (some ⟨g, 0, none⟩) l.length cap ∧ base ≤ g ∧ g < w.heap.size ∧ l.length ≤ cap := by
  rcases h.2 with ⟨_, h0⟩ | ⟨g, cap, cur, hv, hb, hh, hc, _⟩
  · omega
  · exact ⟨g, cap, hv, hb, (Array.getElem?_eq_some_iff.1 hh).1, hc⟩

/-- append of one byte that the statement lays. -/
theorem app1 {w : World} {base : Nat} {v : Value} {l : List Nat} (h : Own w base v l) (x : Nat) (hb : base ≤ w.heap.size) (hn : l.length + 1 ≤ 140737488355328) (ty : TypeId) :
    ∃ v' w', (Builtin.append_ #[46, 46] ty #[v, .slice (some ⟨w.heap.size, 0, none⟩) 1 1]).run Tryd.prog (w.alloc (.cells #[.int .u8 (x : Int)] 5)) = .ok v' w' ∧ Own w' base v' (l ++ [x]) ∧ Below base w w' ∧ w.heap.size ≤ w'.heap.size := by
  obtain ⟨i, hi, hz, hs, hby⟩ := info_parts info_u8
  obtain ⟨v', w', hr, ho, hg, _, _⟩ := run_append_own_at (P := Tryd.prog) (w.alloc (.cells #[.int .u8 (x : Int)] 5)) base 46 ty 5 i (.int .u8 0) 1 1 Tryd.underlying46 hi hz hs hby rfl (by decide) v l.length (cl l) (World.ownsRow.alloc h _) ⟨w.heap.size, 0, none⟩ 1 1 (cl [x]) rfl
    (by intro j u hj; cases j with | zero => (simp [cl] at hj; subst hj; simp [Addr.add, go_sem]) | succ j => simp [cl] at hj) (cl_one _) (by unfold maxLen; omega) (by omega) (by simp; omega)
  have hB : Below base w (w.alloc (.cells #[.int .u8 (x : Int)] 5)) := (Below.refl base w).alloc hb _
  have hB2 := hB.grown hg (by simp; omega) h.block
  refine ⟨v', w', hr, ?_, hB2, hB2.size⟩
  unfold Own
  rw [cl_app, List.length_append]
  exact ho
/-- the first n bytes. -/
def bl (f : Nat → Nat) (n : Nat) : List Nat := (List.range n).map f
theorem bl_len (f : Nat → Nat) (n : Nat) : (bl f n).length = n := by simp [bl]
/-- append of bytes that lie in memory. -/
theorem appB {w : World} {base : Nat} {v : Value} {l : List Nat} (h : Own w base v l) {b off n : Nat} {f : Nat → Nat} (B : Bs w b off n f) (cap : Nat) (hb : base ≤ w.heap.size) (hn : l.length + n ≤ 140737488355328) (ty : TypeId) :
    ∃ v' w', (Builtin.append_ #[46, 46] ty #[v, .slice (some ⟨b, off, none⟩) n cap]).run Tryd.prog w = .ok v' w' ∧ Own w' base v' (l ++ bl f n) ∧ Below base w w' ∧ w.heap.size ≤ w'.heap.size := by
  obtain ⟨i, hi, hz, hs, hby⟩ := info_parts info_u8
  obtain ⟨v', w', hr, ho, hg, _, _⟩ := run_append_own_at (P := Tryd.prog) w base 46 ty 5 i (.int .u8 0) 1 1 Tryd.underlying46 hi hz hs hby rfl (by decide) v l.length (cl l) h ⟨b, off, none⟩ n cap (cl (bl f n)) (by rw [cl_len, bl_len]; omega)
    (by
      intro j u hj
      have hj' : j < n := by have := (List.getElem?_eq_some_iff.1 hj).1; rw [cl_len, bl_len] at this; exact this
      have e := B.2.2 j hj'
      have : u = .int .u8 (f j : Int) := by simpa [cl, bl, hj'] using hj.symm
      rw [this]
      cases j <;> simpa [Addr.add] using e) (cl_one _) (by unfold maxLen; omega) (by omega) hb
  have hB2 := (Below.refl base w).grown hg hb h.block
  refine ⟨v', w', hr, ?_, hB2, hB2.size⟩
  unfold Own
  rw [cl_app, List.length_append, bl_len]
  exact ho
theorem Own.nil (w : World) (base : Nat) : Own w base (.slice none 0 0) [] := World.ownsRow_nil w base _ 1

/-- how many bytes 0 padding takes. -/
def zz (n : Nat) : Nat := (119 - n % 64) % 64
theorem zz_at (n : Nat) : (n + 1 + zz n) % 64 = 56 ∧ zz n ≤ 63 := by unfold zz; omega
theorem zz_ahead {n k : Nat} (h : k < zz n) : (n + 1 + k) % 64 ≠ 56 := by unfold zz at h; omega
/-- the number of bits, byte i. -/
def lbAt (low : Bool) (n i : Nat) : Nat := n * 8 / 2 ^ (if low then 8 * i else 56 - 8 * i) % 256
def lb (low : Bool) (n : Nat) (k : Nat) : List Nat := (List.range k).map (lbAt low n)
theorem lb_succ (low : Bool) (n k : Nat) : lb low n (k + 1) = lb low n k ++ [lbAt low n k] := by simp [lb, List.range_succ]
theorem lb_len (low : Bool) (n k : Nat) : (lb low n k).length = k := by simp [lb]
/-- padded. -/
def pd (low : Bool) (f : Nat → Nat) (n : Nat) : List Nat := bl f n ++ [128] ++ List.replicate (zz n) 0 ++ lb low n 8
theorem pd_len (low : Bool) (f : Nat → Nat) (n : Nat) : (pd low f n).length = n + 1 + zz n + 8 := by simp [pd, bl_len, lb_len]; omega
theorem plen (f : Nat → Nat) (n k : Nat) : (bl f n ++ [128] ++ List.replicate k 0).length = n + 1 + k := by simp only [List.length_append, bl_len, List.length_replicate, List.length_cons, List.length_nil]
def sl : Value → Nat
  | .slice _ l _ => l
  | _ => 0
theorem bstepB {B : Nat} {a b c : World} (h : Below B a b) (k : Below B b c) : Below B a c := h.trans k
end Go.Proofs.YtmehknhajoemgaaDoor.Hs
namespace Go.Proofs.YtmehknhajoemgaaDoor.Hs
open Go.RowKit
set_option linter.unusedVariables false
set_option linter.unusedSimpArgs false

end Go.Proofs.YtmehknhajoemgaaDoor.Hs
