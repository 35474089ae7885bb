/-
  The contract of aes.substitutes: S of every byte.
  Conditions: none.
-/
import Derived.Test.YtfefkakdhaecpaaAeG
namespace Go.Proofs.Ytfefkakdhaecpaa.Ae
open Go.RowKit By
set_option linter.unusedVariables false
set_option linter.unusedSimpArgs false

theorem info_255 : (Try.prog.info? 53).map (·.size) = some 255 := by kernel_rfl
theorem info_256 : (Try.prog.info? 44).map (·.size) = some 256 := by kernel_rfl
def zs (n : Nat) : Array Value := Array.replicate n (.int .u8 0)
theorem zv_of {t : TypeId} {n : Nat} (h : (Try.prog.info? t).map (·.zero) = some (some (Value.agg (zs n)))) (w : World) : (zeroValue t).run Try.prog w = .ok (.agg (zs n)) w := by
  cases hq : Try.prog.info? t with
  | none => simp [hq] at h
  | some i =>
    have : i.zero = some (Value.agg (zs n)) := by simpa [hq] using h
    simp [zeroValue, typeInfo, hq, this]
theorem zv_256 (w : World) : (zeroValue 44).run Try.prog w = .ok (.agg (zs 256)) w := zv_of (by kernel_rfl) w
theorem zv_255 (w : World) : (zeroValue 53).run Try.prog w = .ok (.agg (zs 255)) w := zv_of (by kernel_rfl) w
theorem run_idx {t e : TypeId} {n : Nat} (hu : Try.prog.underlying t = some (.array n e)) (he : Try.prog.underlying e = some (.int .u8)) (hs : (Try.prog.info? e).map (·.size) = some 1) (g : Nat → Nat) (k : Nat) (hk : k < n) (w : World) :
    (Instr.index t (.agg (ac g n).toArray) (.int .i64 (k : Int))).run Try.prog w = .ok (.int .u8 (g k)) w := by
  cases hq : Try.prog.info? e with
  | none => simp [hq] at hs
  | some i =>
    have hi : i.size = 1 := by simpa [hq] using hs
    have hg : (ac g n)[k]? = some (.int .u8 ((g k : Nat) : Int)) := ac_get hk
    simp [Instr.index, asIntOf, run_underlying hu, run_underlying he, part, isAgg, sizeOf, typeInfo, hq, hi, hk, hg]
theorem Ay.newA (w : World) (n : Nat) (g : Nat → Nat) (A : Array Value) (ty : TypeId) (hg : ∀ i, i < n → g i < 256) (hA : ∀ i, i < n → A[i]? = some (.int .u8 (g i))) : Ay (w.alloc (.cells A ty)) w.heap.size 0 n g := by
  refine ⟨by simp, hg, fun i hi => ⟨?_, by simp [go_sem]⟩⟩
  rw [World.cell?_alloc_mark w _ _ (0, 0) _]
  simpa using hA i hi
theorem tS_lt : ∀ k i, tS k i < 256
  | 0, i => by
    show up _ _ _ i < _
    unfold up
    split
    · exact sc_lt (by omega)
    · simp
  | k + 1, i => by
    show up _ _ _ i < _
    unfold up
    split
    · exact sc_lt (p3_lt _)
    · exact tS_lt k i

set_option maxRecDepth 100000 in
set_option maxHeartbeats 4000000 in
theorem substitutes_c (w : World) :
    Calls Try.prog 25 #[] w fun e w' => e = .returned (.agg (ac sbox 256).toArray) ∧ Below w.heap.size w w' := by
  have DB := Lib.hid (fun x w (hx : x < 256) => double_c x w hx)
  have SC := Lib.hid (fun x w (hx : x < 256) => scattered_c x w hx)
  have Z1 := zv_256
  have Z2 := zv_255
  have WS := Lib.hid (balloc (balloc (brefl w) (.cells (zs 256) 44)) (.cells (zs 255) 53))
  have R0 := Lib.hid ((Ay.new0 w 256 44).below (balloc (brefl _) (.cells (zs 255) 53)))
  have P0 := Lib.hid (Ay.new0 (w.alloc (.cells (zs 256) 44)) 255 53)
  rw [sz_alloc] at P0
  replace R0 : Hid (Ay ((w.alloc (.cells (zs 256) 44)).alloc (.cells (zs 255) 53)) w.heap.size 0 256 (fun _ => 0)) := R0
  replace P0 : Hid (Ay ((w.alloc (.cells (zs 256) 44)).alloc (.cells (zs 255) 53)) (w.heap.size + 1) 0 255 (fun _ => 0)) := P0
  go_enter Try.func25, Try.ntmps25
  go_wp2_with fail
  generalize (w.alloc (.cells (zs 256) 44)).alloc (.cells (zs 255) 53) = W0 at *
  go_loopw [2, 7] (fun p i wr => ∃ k : Nat, k ≤ 255 ∧ i = .int .i64 k ∧ p = .int .u8 (p3 k) ∧ Ay wr (w.heap.size + 1) 0 255 (fun i => if i < k then p3 i else 0) ∧ Ay wr w.heap.size 0 256 (fun _ => 0) ∧ Below w.heap.size W0 wr) (fun _ i _ => 255 - (intOf i).toNat)
  case atStart => exact ⟨0, by omega, rfl, rfl, P0.out.eq (by simp), R0.out, Below.refl _ _⟩
  case round =>
    obtain ⟨k, hk, rfl, rfl, ar, rr, hb⟩ := hrel
    rename World => wr
    have AR := Lib.hid ar
    have RR := Lib.hid rr
    have BB := Lib.hid hb
    clear ar rr hb
    by_cases c : k < 255
    · have e0 : decide ((k : Int) < 255) = true := by rw [decide_eq_true_iff]; omega
      obtain ⟨a1, a2⟩ := AR.out.at c
      have VL := p3_lt k
      have X0 := xt_lt VL
      have XO := xor8 (p3 k) (xt (p3 k)) VL X0
      have NX : Hid (p3 (k + 1) = p3 k ^^^ xt (p3 k)) := rfl
      have ST := Lib.hid (AR.out.set0 k (p3 k) c VL)
      have D1 := Lib.hid (fun w => DB.out (p3 k) w VL)
      have NX2 := Lib.hid NX.out
      have PE : Hid (∃ q, q = p3 k) := ⟨_, rfl⟩
      obtain ⟨q, hq⟩ := PE.out
      rw [← NX.out] at XO
      rw [← hq] at XO ST D1 VL X0
      have HQ := Lib.hid hq
      clear PE NX
      rw [← hq]
      clear hq
      obtain ⟨z, hz⟩ : ∃ z, z = p3 (k + 1) := ⟨_, rfl⟩
      rw [← hz] at XO
      have NZ := Lib.hid hz
      clear hz NX2
      have k0 : (0 : Int) ≤ (k : Int) := by omega
      have k1 : (k : Int) < 255 := by omega
      go_wp2_with fail
      refine (D1.out _).mono ?_
      rintro e w' ⟨rfl, rfl⟩
      go_wp2_with fail
      exact ⟨⟨k + 1, by omega, by go_num, by rw [NZ.out], ST.out.eq (fun i hi => by unfold up; by_cases e : i = k <;> by_cases e' : i < k <;> simp [e, e', HQ.out] <;> omega), RR.out.other (by omega) k _, BB.out.setCell (by show w.heap.size ≤ w.heap.size + 1; omega) _⟩, by simp [intOf]; omega⟩
    · have e0 : decide ((k : Int) < 255) = false := by rw [decide_eq_false_iff_not]; omega
      obtain rfl : k = 255 := by omega
      have AW := Lib.hid (AR.out.eq (g' := p3) (fun i hi => by simp [hi]))
      have SC0 := Lib.hid (fun w => SC.out 0 w (by omega))
      have S0 : Hid (Ay (wr.alloc (.cells ((zs 256).setIfInBounds 0 (.int .u8 (sc 0))) 44)) wr.heap.size 0 256 (tS 0)) := Lib.hid (Ay.newA wr 256 (tS 0) _ _ (fun i _ => tS_lt 0 i) (fun i hi => by
        show _ = some (Value.int .u8 ((up (fun _ => 0) 0 (sc 0) i : Nat) : Int))
        unfold up zs
        by_cases e : i = 0
        · subst e; simp
        · rw [if_neg e, Array.getElem?_setIfInBounds, if_neg (fun q => e q.symm)]
          simp [hi]))
      have L1 := AW.out.1
      have L2 := RR.out.1
      have B1 : Below wr.heap.size wr (wr.alloc (.cells ((zs 256).setIfInBounds 0 (.int .u8 (sc 0))) 44)) := balloc (brefl wr) _
      have PW := Lib.hid (AW.out.below B1)
      have RW := Lib.hid (RR.out.below B1)
      have BW := Lib.hid ((WS.out.trans BB.out).trans (B1.mono (Nat.le_of_lt L2)))
      clear B1 BB
      go_wp2_with fail
      refine (SC0.out _).mono ?_
      rintro e w' ⟨rfl, rfl⟩
      go_wp2_with fail
      refine wp_load_mid 53 _ rfl _ 0 rfl (ac p3 255) _ PW.out.range Try.underlying53 rfl (by rw [ac_len]; exact info_255) ?_
      go_wp2_with fail
      generalize wr.alloc (.cells ((zs 256).setIfInBounds 0 (.int .u8 (sc 0))) 44) = W1 at *
      generalize wr.heap.size = g at *
      go_loopw [21] (fun i w2 => ∃ k : Nat, k ≤ 255 ∧ i = .int .i64 k ∧ Ay w2 g 0 256 (tS k) ∧ Ay w2 (w.heap.size + 1) 0 255 p3 ∧ Ay w2 w.heap.size 0 256 (fun _ => 0) ∧ Below w.heap.size w w2) (fun i _ => 255 - (intOf i).toNat)
      case atStart => exact ⟨0, by omega, rfl, S0.out, PW.out, RW.out, BW.out⟩
      case round =>
        obtain ⟨k, hk, rfl, sr, pr, rr, hb⟩ := hrel
        rename World => w2
        have SR := Lib.hid sr
        have PR := Lib.hid pr
        have R2 := Lib.hid rr
        have BB := Lib.hid hb
        clear sr pr rr hb
        by_cases c : k < 255
        · have e0 : decide ((k : Int) < 255) = true := by rw [decide_eq_true_iff]; omega
          have IX := run_idx Try.underlying53 Try.underlying5 (by kernel_rfl) p3 k c
          have ql : (255 - k) % 255 < 255 := Nat.mod_lt _ (by omega)
          obtain ⟨p1, p2⟩ := PR.out.at ql
          obtain ⟨s1, s2⟩ := SR.out.at (p3_lt k)
          have NX : Hid (tS (k + 1) = up (tS k) (p3 k) (sc (p3 ((255 - k) % 255)))) := rfl
          have VL := p3_lt ((255 - k) % 255)
          have ST : Hid (Ay (w2.setCell ⟨g, p3 k, none⟩ (.int .u8 (sc (p3 ((255 - k) % 255))))) g 0 256 (tS (k + 1))) := Lib.hid (by rw [NX.out]; exact SR.out.set0 (p3 k) _ (p3_lt k) (sc_lt VL))
          have S1 := Lib.hid (fun w => SC.out (p3 ((255 - k) % 255)) w VL)
          have IL := p3_lt k
          have d1 : (255 - (k : Int)).tmod 255 = (((255 - k) % 255 : Nat) : Int) := by rw [Int.tmod_eq_emod_of_nonneg (by omega)]; omega
          clear NX VL
          generalize sc (p3 ((255 - k) % 255)) = z at *
          generalize p3 ((255 - k) % 255) = y at *
          generalize (255 - k) % 255 = q at *
          generalize p3 k = x at *
          have k0 : (0 : Int) ≤ (k : Int) := by omega
          have k1 : (k : Int) < 255 := by omega
          have q1 : (q : Int) < 255 := by omega
          have x1 : (x : Int) < 256 := by omega
          go_wp2_with fail
          refine (S1.out _).mono ?_
          rintro e w' ⟨rfl, rfl⟩
          go_wp2_with fail
          exact ⟨⟨k + 1, by omega, by go_num, ST.out, PR.out.other (by omega) x _, R2.out.other (by omega) x _, BB.out.setCell (by show w.heap.size ≤ g; omega) _⟩, by simp [intOf]; omega⟩
        · have e0 : decide ((k : Int) < 255) = false := by rw [decide_eq_false_iff_not]; omega
          obtain rfl : k = 255 := by omega
          have AW := Lib.hid (SR.out.eq (g' := sbox) (fun i hi => tS_sbox i hi))
          have VL : ∀ i, i < 256 → sbox i < 256 := AW.out.2.1
          have FI := Lib.hid (Ay.mk_cells (g := sbox) R2.out.1 R2.out.there VL)
          have FB := Lib.hid (belowCells (B := w.heap.size) w.heap.size (Nat.le_refl _) (ac sbox 256) 0 w2 BB.out)
          have SE := run_store_ac (P := Try.prog) R2.out.there sbox
          go_wp2_with (refine wpList_load_mid rfl 44 _ rfl _ 0 rfl (ac sbox 256) _ AW.out.range Try.underlying44 rfl (by rw [ac_len]; exact info_256) ?_)
          refine bodyPost_ret (v := .agg (ac sbox 256).toArray) (results_cell_mid rfl _ _ w.heap.size _ _ rfl FI.out.range Try.underlying44 rfl (by rw [ac_len]; exact info_256)) rfl ⟨rfl, FB.out⟩
end Go.Proofs.Ytfefkakdhaecpaa.Ae
