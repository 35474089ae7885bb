/-
  The contract of hash.SHA256.
  Conditions: the tables read as the program's text lays them; no more than 2^47 - 4096 bytes.
-/
import Derived.Test.YtenlbjnoiamfiaaDoorHsT
namespace Go.Proofs.YtenlbjnoiamfiaaDoor.Hs
open Go.RowKit
set_option linter.unusedVariables false
set_option linter.unusedSimpArgs false

set_option maxHeartbeats 400000 in
theorem sha256Start_c (w : World) : Calls Tryd.prog 28 #[] w fun e w' => e = .returned (.agg #[.int .u32 sha0.a, .int .u32 sha0.b, .int .u32 sha0.c, .int .u32 sha0.d, .int .u32 sha0.e, .int .u32 sha0.f, .int .u32 sha0.g, .int .u32 sha0.h]) ∧ Below w.heap.size w w' := by
  go_enter Tryd.func28, Tryd.ntmps28
  go_wp2_with fail
  refine bodyPost_ret (v := .agg #[.int .u32 sha0.a, .int .u32 sha0.b, .int .u32 sha0.c, .int .u32 sha0.d, .int .u32 sha0.e, .int .u32 sha0.f, .int .u32 sha0.g, .int .u32 sha0.h]) (by simp [results, Tryd.results28, go_sem, sha0]) rfl ⟨rfl, balloc (brefl w) _⟩
theorem idx8_0 (s : S8) (w : World) : (Instr.index 46 (.agg #[.int .u32 s.a, .int .u32 s.b, .int .u32 s.c, .int .u32 s.d, .int .u32 s.e, .int .u32 s.f, .int .u32 s.g, .int .u32 s.h]) (.int .i64 0)).run Tryd.prog w = .ok (.int .u32 s.a) w := by kernel_rfl
theorem idx8_1 (s : S8) (w : World) : (Instr.index 46 (.agg #[.int .u32 s.a, .int .u32 s.b, .int .u32 s.c, .int .u32 s.d, .int .u32 s.e, .int .u32 s.f, .int .u32 s.g, .int .u32 s.h]) (.int .i64 1)).run Tryd.prog w = .ok (.int .u32 s.b) w := by kernel_rfl
theorem idx8_2 (s : S8) (w : World) : (Instr.index 46 (.agg #[.int .u32 s.a, .int .u32 s.b, .int .u32 s.c, .int .u32 s.d, .int .u32 s.e, .int .u32 s.f, .int .u32 s.g, .int .u32 s.h]) (.int .i64 2)).run Tryd.prog w = .ok (.int .u32 s.c) w := by kernel_rfl
theorem idx8_3 (s : S8) (w : World) : (Instr.index 46 (.agg #[.int .u32 s.a, .int .u32 s.b, .int .u32 s.c, .int .u32 s.d, .int .u32 s.e, .int .u32 s.f, .int .u32 s.g, .int .u32 s.h]) (.int .i64 3)).run Tryd.prog w = .ok (.int .u32 s.d) w := by kernel_rfl
theorem idx8_4 (s : S8) (w : World) : (Instr.index 46 (.agg #[.int .u32 s.a, .int .u32 s.b, .int .u32 s.c, .int .u32 s.d, .int .u32 s.e, .int .u32 s.f, .int .u32 s.g, .int .u32 s.h]) (.int .i64 4)).run Tryd.prog w = .ok (.int .u32 s.e) w := by kernel_rfl
theorem idx8_5 (s : S8) (w : World) : (Instr.index 46 (.agg #[.int .u32 s.a, .int .u32 s.b, .int .u32 s.c, .int .u32 s.d, .int .u32 s.e, .int .u32 s.f, .int .u32 s.g, .int .u32 s.h]) (.int .i64 5)).run Tryd.prog w = .ok (.int .u32 s.f) w := by kernel_rfl
theorem idx8_6 (s : S8) (w : World) : (Instr.index 46 (.agg #[.int .u32 s.a, .int .u32 s.b, .int .u32 s.c, .int .u32 s.d, .int .u32 s.e, .int .u32 s.f, .int .u32 s.g, .int .u32 s.h]) (.int .i64 6)).run Tryd.prog w = .ok (.int .u32 s.g) w := by kernel_rfl
theorem idx8_7 (s : S8) (w : World) : (Instr.index 46 (.agg #[.int .u32 s.a, .int .u32 s.b, .int .u32 s.c, .int .u32 s.d, .int .u32 s.e, .int .u32 s.f, .int .u32 s.g, .int .u32 s.h]) (.int .i64 7)).run Tryd.prog w = .ok (.int .u32 s.h) w := by kernel_rfl
theorem idx8 (s : S8) (k : Nat) (hk : k < 8) (w : World) : (Instr.index 46 (.agg #[.int .u32 s.a, .int .u32 s.b, .int .u32 s.c, .int .u32 s.d, .int .u32 s.e, .int .u32 s.f, .int .u32 s.g, .int .u32 s.h]) (.int .i64 (k : Int))).run Tryd.prog w = .ok (.int .u32 (s.at k)) w := by
  match k, hk with
  | 0, _ => exact idx8_0 s w
  | 1, _ => exact idx8_1 s w
  | 2, _ => exact idx8_2 s w
  | 3, _ => exact idx8_3 s w
  | 4, _ => exact idx8_4 s w
  | 5, _ => exact idx8_5 s w
  | 6, _ => exact idx8_6 s w
  | 7, _ => exact idx8_7 s w
theorem at8_lt {s : S8} (h : s.ok) (k : Nat) (hk : k < 8) : s.at k < 4294967296 := by
  obtain ⟨h0, h1, h2, h3, h4, h5, h6, h7⟩ := h
  match k, hk with
  | 0, _ => exact h0
  | 1, _ => exact h1
  | 2, _ => exact h2
  | 3, _ => exact h3
  | 4, _ => exact h4
  | 5, _ => exact h5
  | 6, _ => exact h6
  | 7, _ => exact h7
set_option maxRecDepth 100000 in
set_option maxHeartbeats 4000000 in
theorem SHA256_c (b off n cap : Nat) (f : Nat → Nat) (w : World) (G : Gl w) (hn : n ≤ 140737488351232) (hc : n ≤ cap) (hcap : cap ≤ 9223372036854775807) (B : Bs w b off n f) :
    Calls Tryd.prog 13 #[.slice (some ⟨b, off, none⟩) n cap] w fun e w' => (∃ v, e = .returned v ∧ Own w' w.heap.size v (sha256 f n)) ∧ Below w.heap.size w w' := by
  have SP := Lib.hid (sha_split f n)
  have hf := Lib.hid B.2.1
  have HB := Lib.hid B
  have HG := Lib.hid G
  have KO := Lib.hid (shaGo_ok (F := f) sha0_ok (n / 64))
  clear B G
  go_enter Tryd.func13, Tryd.ntmps13
  go_wp2_with fail
  refine (sha256Start_c _).mono ?_
  rintro e w1 ⟨rfl, hb⟩
  have B1 := Lib.hid hb
  clear hb
  go_wp2_with fail
  refine (sha256Blocks_c sha0 b off n cap f w1 (HG.out.below B1.out) sha0_ok (HB.out.below B1.out) hn hc hcap).mono ?_
  rintro e w2 ⟨rfl, hb⟩
  have B2 := Lib.hid (bstep B1.out hb)
  clear hb
  unfold S8.v
  go_wp2_with fail
  have W3 := Lib.hid (balloc (brefl w2) (.cells #[.int .u32 (shaGo f sha0 (n / 64)).a, .int .u32 (shaGo f sha0 (n / 64)).b, .int .u32 (shaGo f sha0 (n / 64)).c, .int .u32 (shaGo f sha0 (n / 64)).d, .int .u32 (shaGo f sha0 (n / 64)).e, .int .u32 (shaGo f sha0 (n / 64)).f, .int .u32 (shaGo f sha0 (n / 64)).g, .int .u32 (shaGo f sha0 (n / 64)).h] 46))
  have S3 := Lib.hid (Ew.new w2 (shaGo f sha0 (n / 64)) 46)
  have SZ := Lib.hid B2.out.size
  generalize shaGo f sha0 (n / 64) = sv at *
  generalize w2.alloc (.cells #[.int .u32 sv.a, .int .u32 sv.b, .int .u32 sv.c, .int .u32 sv.d, .int .u32 sv.e, .int .u32 sv.f, .int .u32 sv.g, .int .u32 sv.h] 46) = w3 at *
  have B3 := Lib.hid (bstep B2.out W3.out)
  clear W3
  have LT : w2.heap.size < w3.heap.size := S3.out.1
  have KW : Hid (∀ x : World, Below w3.heap.size w3 x → w2.heap.size < w3.heap.size) := Lib.hid fun _ _ => LT
  refine (bitCount_c _ n cap _ hn).mono ?_
  rintro e w' ⟨rfl, rfl⟩
  have k1 : (0 : Int) ≤ (n : Int) := by omega
  have k2 : (n : Int) ≤ 140737488351232 := by omega
  go_wp2_with fail
  refine (unfinished_c b off n cap f _ hn hc hcap (HB.out.below B3.out)).mono ?_
  rintro e w4 ⟨⟨v, rfl, own⟩, hb⟩
  have O4 := Lib.hid own
  have B4 := Lib.hid hb
  have S4 := Lib.hid (S3.out.below hb)
  clear own hb S3
  have EL := ends_len f n
  have ZZ := zz_at n
  go_wp2_with fail
  rw [show 8 * (n : Int) / 4294967296 = ((8 * n / 4294967296 % 4294967296 : Nat) : Int) from by omega]
  refine (appHigh_c O4.out (8 * n / 4294967296 % 4294967296) (Nat.mod_lt _ (by omega)) B4.out.size (by omega)).mono ?_
  rintro e w5 ⟨⟨v5, rfl, own⟩, hb, hs⟩
  have O5 := Lib.hid own
  have S5 := Lib.hid (S4.out.belowB LT hb)
  have B5 := Lib.hid (B4.out.trans hb)
  clear own hb hs S4 O4
  have EL5 : (ends f n ++ wb false (8 * n / 4294967296 % 4294967296) 4).length = n % 64 + 1 + zz n + 4 := by rw [List.length_append, wb_len, EL]
  go_wp2_with fail
  rw [show 8 * (n : Int) % 4294967296 = ((8 * n % 4294967296 : Nat) : Int) from by omega]
  refine (appHigh_c O5.out (8 * n % 4294967296) (Nat.mod_lt _ (by omega)) B5.out.size (by rw [EL5]; omega)).mono ?_
  rintro e w6 ⟨⟨v6, rfl, own⟩, hb, hs⟩
  rw [List.append_assoc, bits_high] at own
  have S6 := Lib.hid (S5.out.belowB LT hb)
  have B6 := Lib.hid (B5.out.trans hb)
  have ENL := en_len false f n
  obtain ⟨ge, ce, rfl, hge, hbe, hce, hce2⟩ := Own.bsC (l := en false f n) own (by rw [ENL]; omega) (en_byte hf.out)
  have BE := Lib.hid hbe
  have HCE := Lib.hid hce
  clear own hb hs S5 O5 hbe hce EL5
  obtain ⟨z0, c0, c1, c2, c3, c4, c5, c6, c7, f0, f1, f2, f3, f4, f5, f6, f7⟩ := S6.out
  go_wp2_with fail
  rw [ENL] at BE
  rw [ENL] at HCE
  have GE := Lib.hid ((HG.out.below B3.out).below B6.out)
  refine (sha256Blocks_c sv ge 0 (n % 64 + 1 + zz n + 8) ce (fun i => (en false f n).getD i 0) w6 GE.out KO.out BE.out (by omega) HCE.out hce2).mono ?_
  rintro e w7 ⟨rfl, hb⟩
  have RO := Lib.hid (shaGo_ok (F := fun i => (en false f n).getD i 0) KO.out ((n % 64 + 1 + zz n + 8) / 64))
  generalize shaGo (fun i => (en false f n).getD i 0) sv ((n % 64 + 1 + zz n + 8) / 64) = rv at *
  have S7 := Lib.hid (S6.out.below hb)
  have B7 := Lib.hid (B6.out.trans (hb.mono (B6.out.size)))
  clear z0 c0 c1 c2 c3 c4 c5 c6 c7 f0 f1 f2 f3 f4 f5 f6 f7 hb BE HCE GE S6 hce2
  obtain ⟨z0, c0, c1, c2, c3, c4, c5, c6, c7, f0, f1, f2, f3, f4, f5, f6, f7⟩ := S7.out
  have MK := mk_run 32 (by omega)
  rw [show ((32 : Nat) : Int) = 32 from rfl] at MK
  unfold S8.v
  have BZ := Lib.hid (below_setr (b := w2.heap.size) (B3.out.trans (B7.out.mono B3.out.size)) SZ.out rv)
  have HZ : ((((((((w7.setCell ⟨w2.heap.size, 0, none⟩ (.int .u32 rv.a)).setCell ⟨w2.heap.size, 1, none⟩ (.int .u32 rv.b)).setCell ⟨w2.heap.size, 2, none⟩ (.int .u32 rv.c)).setCell ⟨w2.heap.size, 3, none⟩ (.int .u32 rv.d)).setCell ⟨w2.heap.size, 4, none⟩ (.int .u32 rv.e)).setCell ⟨w2.heap.size, 5, none⟩ (.int .u32 rv.f)).setCell ⟨w2.heap.size, 6, none⟩ (.int .u32 rv.g)).setCell ⟨w2.heap.size, 7, none⟩ (.int .u32 rv.h)).heap.size = w7.heap.size := by simp [World.setCell]
  go_wp2_with fail
  clear z0 c0 c1 c2 c3 c4 c5 c6 c7 f0 f1 f2 f3 f4 f5 f6 f7
  generalize ((((((((w7.setCell ⟨w2.heap.size, 0, none⟩ (.int .u32 rv.a)).setCell ⟨w2.heap.size, 1, none⟩ (.int .u32 rv.b)).setCell ⟨w2.heap.size, 2, none⟩ (.int .u32 rv.c)).setCell ⟨w2.heap.size, 3, none⟩ (.int .u32 rv.d)).setCell ⟨w2.heap.size, 4, none⟩ (.int .u32 rv.e)).setCell ⟨w2.heap.size, 5, none⟩ (.int .u32 rv.f)).setCell ⟨w2.heap.size, 6, none⟩ (.int .u32 rv.g)).setCell ⟨w2.heap.size, 7, none⟩ (.int .u32 rv.h)) = w8 at *
  rw [← HZ]
  have BY := Lib.hid (balloc BZ.out (.cells (madeCells #[.int .u8 0] 32) 5))
  have OW := Lib.hid (mk_own' w8 w.heap.size BZ.out.size 32 (by omega))
  clear MK HZ
  generalize w8.alloc (.cells (madeCells #[.int .u8 0] 32) 5) = w9 at *
  go_loopw [6, 29] (fun v i wr => ∃ k : Nat, k ≤ 8 ∧ i = .int .i64 k ∧ Own wr w.heap.size v (ob false rv.at k) ∧ Below w.heap.size w wr) (fun _ i _ => 8 - (intOf i).toNat)
  case atStart => exact ⟨0, by omega, rfl, OW.out, BY.out⟩
  case round =>
    obtain ⟨k, hk, rfl, own, hb⟩ := hrel
    rename World => wr
    by_cases c : k < 8
    · have e0 : decide ((k : Int) < 8) = true := by rw [decide_eq_true_iff]; omega
      have IX := idx8 rv k c
      have OL := ob_len false rv.at k
      have AC := Lib.hid (appHigh_c own (rv.at k) (at8_lt RO.out k c) hb.size (by omega))
      have HB0 := Lib.hid hb
      clear own hb OL
      go_wp2_with fail
      refine AC.out.mono ?_
      rintro e wx ⟨⟨vx, rfl, own⟩, hb, hs⟩
      have OX := Lib.hid own
      have BX := Lib.hid (HB0.out.trans hb)
      clear own hb hs
      go_wp2_with fail
      go_roundw
      case rel => exact ⟨k + 1, by omega, by go_num, OX.out, BX.out⟩
      case measure => simp [intOf]; omega
    · have e0 : decide ((k : Int) < 8) = false := by rw [decide_eq_false_iff_not]; omega
      obtain rfl : k = 8 := by omega
      have OX := Lib.hid own
      have BX := Lib.hid hb
      clear own hb
      go_wp2_with fail
      go_ret
      exact ⟨⟨_, rfl, by rw [SP.out]; exact OX.out⟩, BX.out⟩
end Go.Proofs.YtenlbjnoiamfiaaDoor.Hs
