/-
  Bytes in the base sixteen; the contract of hash.Hex.
  Conditions: no more than 2^47 - 4096 bytes.
  The digests of "abc", reckoned.
  Conditions: none.
-/
import Derived.Test.YtkjolaoajbdomaaGreatDoorHe
import Derived.Test.YtkjolaoajbdomaaGreatDoorHb
import Derived.Deep.RegionLaw
namespace Go.Proofs.YtkjolaoajbdomaaGreatDoor.Hs
open Go.RowKit
set_option linter.unusedVariables false
set_option linter.unusedSimpArgs false

/-- a digit. -/
def dg (d : Nat) : Nat := if d < 10 then 48 + d else 87 + d
theorem dg_lt {d : Nat} (h : d < 16) : dg d < 256 := by unfold dg; split <;> omega
def hxL (f : Nat → Nat) : Nat → List Nat
  | 0 => []
  | k + 1 => hxL f k ++ [dg (f k / 16), dg (f k % 16)]
theorem hxL_len (f : Nat → Nat) : ∀ k, (hxL f k).length = 2 * k
  | 0 => rfl
  | k + 1 => by simp only [hxL, List.length_append, hxL_len f k, List.length_cons, List.length_nil]; omega
theorem hxL_byte {f : Nat → Nat} (hf : ∀ i, f i < 256) : ∀ k, ∀ x ∈ hxL f k, x < 256
  | 0, x, h => by simp [hxL] at h
  | k + 1, x, h => by
    have := hf k
    simp only [hxL, List.mem_append, List.mem_cons, List.not_mem_nil, or_false] at h
    rcases h with h | rfl | rfl
    · exact hxL_byte hf k x h
    · exact dg_lt (by omega)
    · exact dg_lt (by omega)
theorem hix_0 (w : World) : (Instr.index 9 (.string ⟨#[48, 49, 50, 51, 52, 53, 54, 55, 56, 57, 97, 98, 99, 100, 101, 102]⟩) (.int .u8 0)).run Tryz.prog w = .ok (.int .u8 48) w := by kernel_rfl
theorem hix_1 (w : World) : (Instr.index 9 (.string ⟨#[48, 49, 50, 51, 52, 53, 54, 55, 56, 57, 97, 98, 99, 100, 101, 102]⟩) (.int .u8 1)).run Tryz.prog w = .ok (.int .u8 49) w := by kernel_rfl
theorem hix_2 (w : World) : (Instr.index 9 (.string ⟨#[48, 49, 50, 51, 52, 53, 54, 55, 56, 57, 97, 98, 99, 100, 101, 102]⟩) (.int .u8 2)).run Tryz.prog w = .ok (.int .u8 50) w := by kernel_rfl
theorem hix_3 (w : World) : (Instr.index 9 (.string ⟨#[48, 49, 50, 51, 52, 53, 54, 55, 56, 57, 97, 98, 99, 100, 101, 102]⟩) (.int .u8 3)).run Tryz.prog w = .ok (.int .u8 51) w := by kernel_rfl
theorem hix_4 (w : World) : (Instr.index 9 (.string ⟨#[48, 49, 50, 51, 52, 53, 54, 55, 56, 57, 97, 98, 99, 100, 101, 102]⟩) (.int .u8 4)).run Tryz.prog w = .ok (.int .u8 52) w := by kernel_rfl
theorem hix_5 (w : World) : (Instr.index 9 (.string ⟨#[48, 49, 50, 51, 52, 53, 54, 55, 56, 57, 97, 98, 99, 100, 101, 102]⟩) (.int .u8 5)).run Tryz.prog w = .ok (.int .u8 53) w := by kernel_rfl
theorem hix_6 (w : World) : (Instr.index 9 (.string ⟨#[48, 49, 50, 51, 52, 53, 54, 55, 56, 57, 97, 98, 99, 100, 101, 102]⟩) (.int .u8 6)).run Tryz.prog w = .ok (.int .u8 54) w := by kernel_rfl
theorem hix_7 (w : World) : (Instr.index 9 (.string ⟨#[48, 49, 50, 51, 52, 53, 54, 55, 56, 57, 97, 98, 99, 100, 101, 102]⟩) (.int .u8 7)).run Tryz.prog w = .ok (.int .u8 55) w := by kernel_rfl
theorem hix_8 (w : World) : (Instr.index 9 (.string ⟨#[48, 49, 50, 51, 52, 53, 54, 55, 56, 57, 97, 98, 99, 100, 101, 102]⟩) (.int .u8 8)).run Tryz.prog w = .ok (.int .u8 56) w := by kernel_rfl
theorem hix_9 (w : World) : (Instr.index 9 (.string ⟨#[48, 49, 50, 51, 52, 53, 54, 55, 56, 57, 97, 98, 99, 100, 101, 102]⟩) (.int .u8 9)).run Tryz.prog w = .ok (.int .u8 57) w := by kernel_rfl
theorem hix_10 (w : World) : (Instr.index 9 (.string ⟨#[48, 49, 50, 51, 52, 53, 54, 55, 56, 57, 97, 98, 99, 100, 101, 102]⟩) (.int .u8 10)).run Tryz.prog w = .ok (.int .u8 97) w := by kernel_rfl
theorem hix_11 (w : World) : (Instr.index 9 (.string ⟨#[48, 49, 50, 51, 52, 53, 54, 55, 56, 57, 97, 98, 99, 100, 101, 102]⟩) (.int .u8 11)).run Tryz.prog w = .ok (.int .u8 98) w := by kernel_rfl
theorem hix_12 (w : World) : (Instr.index 9 (.string ⟨#[48, 49, 50, 51, 52, 53, 54, 55, 56, 57, 97, 98, 99, 100, 101, 102]⟩) (.int .u8 12)).run Tryz.prog w = .ok (.int .u8 99) w := by kernel_rfl
theorem hix_13 (w : World) : (Instr.index 9 (.string ⟨#[48, 49, 50, 51, 52, 53, 54, 55, 56, 57, 97, 98, 99, 100, 101, 102]⟩) (.int .u8 13)).run Tryz.prog w = .ok (.int .u8 100) w := by kernel_rfl
theorem hix_14 (w : World) : (Instr.index 9 (.string ⟨#[48, 49, 50, 51, 52, 53, 54, 55, 56, 57, 97, 98, 99, 100, 101, 102]⟩) (.int .u8 14)).run Tryz.prog w = .ok (.int .u8 101) w := by kernel_rfl
theorem hix_15 (w : World) : (Instr.index 9 (.string ⟨#[48, 49, 50, 51, 52, 53, 54, 55, 56, 57, 97, 98, 99, 100, 101, 102]⟩) (.int .u8 15)).run Tryz.prog w = .ok (.int .u8 102) w := by kernel_rfl
theorem hix (k : Nat) (hk : k < 16) (w : World) : (Instr.index 9 (.string ⟨#[48, 49, 50, 51, 52, 53, 54, 55, 56, 57, 97, 98, 99, 100, 101, 102]⟩) (.int .u8 (k : Int))).run Tryz.prog w = .ok (.int .u8 ((dg k : Nat) : Int)) w := by
  match k, hk with
  | 0, _ => exact hix_0 w
  | 1, _ => exact hix_1 w
  | 2, _ => exact hix_2 w
  | 3, _ => exact hix_3 w
  | 4, _ => exact hix_4 w
  | 5, _ => exact hix_5 w
  | 6, _ => exact hix_6 w
  | 7, _ => exact hix_7 w
  | 8, _ => exact hix_8 w
  | 9, _ => exact hix_9 w
  | 10, _ => exact hix_10 w
  | 11, _ => exact hix_11 w
  | 12, _ => exact hix_12 w
  | 13, _ => exact hix_13 w
  | 14, _ => exact hix_14 w
  | 15, _ => exact hix_15 w
  | _ + 16, h => exact absurd h (by omega)

theorem and15 (x : Nat) (hx : x < 256) : bits BinOp.and IntKind.u8 (x : Int) 15 = ((x % 16 : Nat) : Int) := by
  have e : (BitVec.ofInt 8 (x : Int) &&& BitVec.ofInt 8 15).toNat = x % 16 := by
    rw [BitVec.toNat_and, BitVec.toNat_ofInt, BitVec.toNat_ofInt]
    have h : ((15 : Int) % ((2 ^ 8 : Nat) : Int)).toNat = 2 ^ 4 - 1 := by decide
    rw [h, Nat.and_two_pow_sub_one_eq_mod]
    omega
  show IntKind.u8.wrap ((BitVec.ofInt 8 (x : Int) &&& BitVec.ofInt 8 15).toNat : Int) = _
  rw [e]
  simp only [IntKind.wrap, IntKind.bits, IntKind.signed]
  simp
  omega
/-- an append whose outcome is known, in a region that draws its order. -/
theorem step_append_eq {P : Program} {w : World} {ops : Array Oper} {o : Oper} {a : Act} {K : Act → World → Prop} {Q : Exit → Act → World → Prop} {E : Prop} (hgd : o.guard = none) (s x : Operand) (t : TypeId)
    (ho : o.op = .call { callee := .builtin .append, args := #[s, x], argTypes := #[t, t] }) (v xv v' : Value) (w' : World) (hs : a.eval s = v) (hx : a.eval x = xv)
    (hr : (Builtin.append_ #[t, t] o.type #[v, xv]).run P w = .ok v' w') (h : K (a.put o.dst v') w') :
    if Region.wanted o (yielded ops a.tmps) = true then Oper.wp P o a w K Q else E := by
  have hw : Region.wanted o (yielded ops a.tmps) = true := by simp [Region.wanted, hgd]
  rw [if_pos hw]
  unfold Oper.wp execOp
  simp only [ho, resolve, invoke, builtin, Sem.run_bind, Sem.run_pure, Result.andThen_ok, List.map_toArray, List.map_cons, List.map_nil, hs, hx, hr]
  exact h
/-- append of bytes that the statement lays, where there is room. -/
theorem appR {w : World} {base g cap : Nat} {l : List Nat} (h : Own w base (.slice (some ⟨g, 0, none⟩) l.length cap) l) (k : List Nat) (hg : g < w.heap.size) (hk : l.length + k.length ≤ cap) (hb : base ≤ g) (ty : TypeId) :
    ∃ w', (Builtin.append_ #[28, 28] ty #[.slice (some ⟨g, 0, none⟩) l.length cap, .slice (some ⟨w.heap.size, 0, none⟩) k.length k.length]).run Tryz.prog (w.alloc (.cells (cl k).toArray 5)) = .ok (.slice (some ⟨g, 0, none⟩) (l.length + k.length) cap) w' ∧ Own w' base (.slice (some ⟨g, 0, none⟩) (l ++ k).length cap) (l ++ k) ∧ Below base w w' := by
  obtain ⟨i, hi, hz, hs, hby⟩ := info_parts info_u8
  obtain ⟨w', hr, ho, hgr⟩ := run_append_fits (P := Tryz.prog) (w.alloc (.cells (cl k).toArray 5)) base 28 ty 5 i 1 Tryz.underlying28 hi hs g l.length cap (cl l) (World.ownsRow.alloc h _) ⟨w.heap.size, 0, none⟩ k.length k.length (cl k) (by rw [cl_len]; omega)
    (by
      intro j u hj
      have e : (⟨w.heap.size, 0, none⟩ : Addr).add j = ⟨w.heap.size, j, none⟩ := by unfold Addr.add; split <;> simp_all
      rw [e, World.cell?_alloc_mark w _ _ (0, 0) j]
      simpa using hj) (cl_one _) hk
  have hB : Below base w (w.alloc (.cells (cl k).toArray 5)) := (Below.refl base w).alloc (by omega) _
  refine ⟨w', hr, ?_, hB.grown hgr (by simp; omega) (fun j hj => by cases hj; exact hb)⟩
  unfold Own
  rw [cl_app, List.length_append]
  exact ho
theorem Own.bs0 {w : World} {base g m cap : Nat} {l : List Nat} (h : Own w base (.slice (some ⟨g, 0, none⟩) m cap) l) (h8 : ∀ x ∈ l, x < 256) : Bs w g 0 l.length (fun i => l.getD i 0) := by
  rcases h.2 with ⟨h0, _⟩ | ⟨g', cap', cur, hv, hb, hh, hc, _, hcs, ht⟩
  · cases h0
  · simp only [Value.slice.injEq, Option.some.injEq, Addr.mk.injEq, and_true, true_and] at hv
    obtain ⟨rfl, _, rfl⟩ := hv
    refine ⟨(Array.getElem?_eq_some_iff.1 hh).1, fun i => ?_, fun i hi => ?_⟩
    · show l.getD i 0 < 256
      rw [List.getD_eq_getElem?_getD]
      cases e : l[i]? with
      | none => simp
      | some x => simpa using h8 x (List.mem_of_getElem? e)
    · have e : (cl l)[i]? = some (.int .u8 ((l.getD i 0 : Nat) : Int)) := by simp [cl, List.getD_eq_getElem?_getD, hi]
      rw [← ht, Nat.mul_one, List.getElem?_take, if_pos hi] at e
      simp only [World.cell?, hh, Nat.zero_add]
      simpa using e
theorem bl_getD (l : List Nat) : bl (fun i => l.getD i 0) l.length = l := by
  apply List.ext_getElem?
  intro i
  by_cases h : i < l.length
  · simp [bl, h]
  · rw [List.getElem?_eq_none (by rw [bl_len]; omega), List.getElem?_eq_none (by omega)]

set_option maxRecDepth 100000 in
set_option maxHeartbeats 4000000 in
theorem Hex_c (a : Option Addr) (n cap : Nat) (f : Nat → Nat) (w : World) (hn : n ≤ 140737488351296) (hf : ∀ i, f i < 256) (hc : n ≤ cap) (hcap : cap ≤ 9223372036854775807) (HA : Hid (0 < n → ∃ b off, a = some ⟨b, off, none⟩ ∧ Bs w b off n f)) :
    Calls Tryz.prog 56 #[.slice a n cap] w fun e w' => e = .returned (.string (bs8 (hxL f n))) ∧ Below w.heap.size w w' := by
  have MK := mk_run (2 * n) (by omega)
  rw [show ((2 * n : Nat) : Int) = 2 * (n : Int) from by omega] at MK
  have OW := Lib.hid (mk_own' w w.heap.size (Nat.le_refl _) (2 * n) (by omega))
  have BW := Lib.hid (balloc (brefl w) (.cells (madeCells #[.int .u8 0] (2 * n)) 5))
  have SZ : Hid (w.heap.size < (w.alloc (.cells (madeCells #[.int .u8 0] (2 * n)) 5)).heap.size) := Lib.hid (by simp)
  have HF := Lib.hid hf
  clear hf
  have k0 : (0 : Int) ≤ (n : Int) := by omega
  have k1 : (n : Int) ≤ 140737488351296 := by omega
  go_enter Tryz.func56, Tryz.ntmps56
  go_wp2_with fail
  clear MK
  generalize w.alloc (.cells (madeCells #[.int .u8 0] (2 * n)) 5) = w1 at *
  go_loopw [3, 12] (fun v i wr => ∃ k : Nat, k ≤ n ∧ i = .int .i64 k ∧ v = .slice (some ⟨w.heap.size, 0, none⟩) (2 * k) (2 * n) ∧ Own wr w.heap.size (.slice (some ⟨w.heap.size, 0, none⟩) (hxL f k).length (2 * n)) (hxL f k) ∧ Below w.heap.size w wr ∧ w.heap.size < wr.heap.size) (fun _ i _ => n - (intOf i).toNat)
  case atStart => exact ⟨0, by omega, rfl, rfl, OW.out, BW.out, SZ.out⟩
  case round =>
    clear OW BW SZ
    obtain ⟨k, hk, rfl, rfl, own, hb, hs⟩ := hrel
    rename World => wr
    have HL := hxL_len f k
    by_cases c : k < n
    · have e0 : decide ((k : Int) < (n : Int)) = true := by rw [decide_eq_true_iff]; omega
      obtain ⟨b, off, rfl, B⟩ := HA.out (by omega)
      have g := (B.below hb).2.2 k c
      have xl := HF.out k
      obtain ⟨w2, hr, ho, hb2⟩ := appR (w := wr.drew) (World.ownsRow.drew own) [dg (f k / 16), dg (f k % 16)] hs (by rw [HL]; simp; omega) (Nat.le_refl _) 28
      have HR : Hid ((Builtin.append_ #[28, 28] 28 #[.slice (some ⟨w.heap.size, 0, none⟩) (2 * k) (2 * n), .slice (some ⟨wr.heap.size, 0, none⟩) 2 2]).run Tryz.prog (wr.drew.alloc (.cells #[.int .u8 ((dg (f k / 16) : Nat) : Int), .int .u8 ((dg (f k % 16) : Nat) : Int)] 5)) = .ok (.slice (some ⟨w.heap.size, 0, none⟩) (2 * k + 2) (2 * n)) w2) := Lib.hid (by rw [HL] at hr; exact hr)
      have HO : Hid (Own w2 w.heap.size (.slice (some ⟨w.heap.size, 0, none⟩) (hxL f (k + 1)).length (2 * n)) (hxL f (k + 1))) := Lib.hid ho
      have HB2 := Lib.hid ((hb.trans (bdrew1 _ _)).trans hb2)
      have HS2 := Lib.hid (Nat.lt_of_lt_of_le hs (show wr.heap.size ≤ w2.heap.size from hb2.size))
      clear hr ho hb2 own hb hs B HL
      have I1 := hix (f k / 16) (by omega)
      have I2 := hix (f k % 16) (by omega)
      have A1 := and15 (f k) xl
      generalize f k = x at *
      rw [show ((x / 16 : Nat) : Int) = (x : Int) / 16 from by omega] at I1
      rw [show ((x % 16 : Nat) : Int) = (x : Int) % 16 from by omega] at I2
      have x0 : (0 : Int) ≤ (x : Int) := by omega
      have x1 : (x : Int) < 256 := by omega
      go_wp2_with fail
      go_region_law (refine step_append_eq rfl (.tmp 16) (.tmp 23) 28 rfl _ _ (.slice (some ⟨w.heap.size, 0, none⟩) (2 * k + 2) (2 * n)) w2 rfl rfl HR.out ?_)
      all_goals
        go_wp2_with fail
        go_roundw
        case rel => exact ⟨k + 1, by omega, by go_num, by rw [show 2 * (k + 1) = 2 * k + 2 from by omega], HO.out, HB2.out, HS2.out⟩
        case measure => simp [intOf]; omega
    · have e0 : decide ((k : Int) < (n : Int)) = false := by rw [decide_eq_false_iff_not]; omega
      obtain rfl : k = n := by omega
      have C := conv_bs (own.bs0 (hxL_byte HF.out k)) (2 * k)
      rw [bl_getD, HL] at C
      have HB0 := Lib.hid hb
      clear own hb hs
      go_wp2_with fail
      go_ret
      exact ⟨rfl, HB0.out⟩
end Go.Proofs.YtkjolaoajbdomaaGreatDoor.Hs
namespace Go.Proofs.YtkjolaoajbdomaaGreatDoor.Hs
open Go.RowKit
set_option linter.unusedVariables false
set_option linter.unusedSimpArgs false

def abc (i : Nat) : Nat := [97, 98, 99].getD i 0
theorem abc_lt (i : Nat) : abc i < 256 := by
  unfold abc
  rw [List.getD_eq_getElem?_getD]
  cases e : [97, 98, 99][i]? with
  | none => simp
  | some x =>
    have := List.mem_of_getElem? e
    simp at this
    rcases this with rfl | rfl | rfl <;> simp
set_option maxRecDepth 100000 in
theorem md5_abc : hxL (fun i => (md5 abc 3).getD i 0) 16 = [57, 48, 48, 49, 53, 48, 57, 56, 51, 99, 100, 50, 52, 102, 98, 48, 100, 54, 57, 54, 51, 102, 55, 100, 50, 56, 101, 49, 55, 102, 55, 50] := by decide +kernel
set_option maxRecDepth 100000 in
theorem sha_abc : hxL (fun i => (sha256 abc 3).getD i 0) 32 = [98, 97, 55, 56, 49, 54, 98, 102, 56, 102, 48, 49, 99, 102, 101, 97, 52, 49, 52, 49, 52, 48, 100, 101, 53, 100, 97, 101, 50, 50, 50, 51, 98, 48, 48, 51, 54, 49, 97, 51, 57, 54, 49, 55, 55, 97, 57, 99, 98, 52, 49, 48, 102, 102, 54, 49, 102, 50, 48, 48, 49, 53, 97, 100] := by decide +kernel
end Go.Proofs.YtkjolaoajbdomaaGreatDoor.Hs
