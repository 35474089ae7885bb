/-
  The contract of wire.appendHeader.
  Conditions: none.
-/
import Derived.Test.YtmjbnbjkpimjmaaWjA
import Derived.Deep.CutRange
namespace Go.Proofs.Ytmjbnbjkpimjmaa.Wi
open Go.RowKit Go.ChangeShapes Go.WideShapes Go.ChangeAt Go.Joins By
set_option linter.unusedVariables false
set_option linter.unusedSimpArgs false

theorem or3 {a b c : Int} (ha : 0 ≤ a ∧ a ≤ 3) (hb : 1 ≤ b ∧ b ≤ 4) (hc : 0 ≤ c ∧ c ≤ 7) : bits BinOp.or IntKind.i64 (bits BinOp.or IntKind.i64 (a * 64) (b * 8)) c = a * 64 + b * 8 + c := by
  have h1 : a = 0 ∨ a = 1 ∨ a = 2 ∨ a = 3 := by omega
  have h2 : b = 1 ∨ b = 2 ∨ b = 3 ∨ b = 4 := by omega
  have h3 : c = 0 ∨ c = 1 ∨ c = 2 ∨ c = 3 ∨ c = 4 ∨ c = 5 ∨ c = 6 ∨ c = 7 := by omega
  rcases h1 with rfl | rfl | rfl | rfl <;> rcases h2 with rfl | rfl | rfl | rfl <;> rcases h3 with rfl | rfl | rfl | rfl | rfl | rfl | rfl | rfl <;> decide
theorem u8_wrap (x : Int) : IntKind.u8.wrap x = x % 256 := by
  simp only [IntKind.wrap, IntKind.bits, IntKind.signed]
  simp
/-- the first j of these numbers in m bytes each. -/
def nums (m : Nat) (f : Nat → Nat) : Nat → List Nat
  | 0 => []
  | j + 1 => nums m f j ++ pt (f j) m
theorem nums_len (m : Nat) (f : Nat → Nat) : ∀ j, (nums m f j).length = m * j
  | 0 => rfl
  | j + 1 => by rw [nums, List.length_append, nums_len m f j, pt_len]; rw [Nat.mul_succ]
def n3 (p : Pk) (j : Nat) : Nat := [p.rd, p.rs, p.rid].getD j 0
def n4 (p : Pk) (j : Nat) : Nat := [p.tref, p.torg, p.trec, p.txm].getD j 0
theorem he_nums (p : Pk) : he p = hb p ++ nums 4 (n3 p) 3 ++ nums 8 (n4 p) 4 := by
  simp [he, nums, n3, n4]
set_option maxRecDepth 100000 in
set_option maxHeartbeats 8000000 in
theorem appendHeader_c (p : Pk) (h : okH p = true) (hk : p.kind) (w : World) : Calls Try.prog 18 #[.slice none 0 0, .agg #[.int .i64 p.leap, .int .i64 p.ver, .int .i64 p.mode, .int .i64 p.strat, .int .i64 p.poll, .int .i64 p.prec, .int .u32 (p.rd : Nat), .int .u32 (p.rs : Nat), .int .u32 (p.rid : Nat), .int .u64 (p.tref : Nat), .int .u64 (p.torg : Nat), .int .u64 (p.trec : Nat), .int .u64 (p.txm : Nat)]] w fun e w' => (∃ v, e = .returned v ∧ Own w' w.heap.size v (he p)) ∧ Below w.heap.size w w' := by
  obtain ⟨a0, a1, a2, a3, a4, a5⟩ := okH_cut h
  have O3 := or3 a0 a1 a2
  obtain ⟨x0, hx0⟩ : ∃ x : Nat, x = (p.leap * 64 + p.ver * 8 + p.mode).toNat := ⟨_, rfl⟩
  obtain ⟨x1, hx1⟩ : ∃ x : Nat, x = p.strat.toNat := ⟨_, rfl⟩
  obtain ⟨x2, hx2⟩ : ∃ x : Nat, x = (p.poll % 256).toNat := ⟨_, rfl⟩
  obtain ⟨x3, hx3⟩ : ∃ x : Nat, x = (p.prec % 256).toNat := ⟨_, rfl⟩
  have W0 : IntKind.u8.wrap (p.leap * 64 + p.ver * 8 + p.mode) = (x0 : Int) := by rw [u8_wrap]; omega
  have W1 : IntKind.u8.wrap p.strat = (x1 : Int) := by rw [u8_wrap]; omega
  have W2 : IntKind.u8.wrap p.poll = (x2 : Int) := by rw [u8_wrap]; omega
  have W3 : IntKind.u8.wrap p.prec = (x3 : Int) := by rw [u8_wrap]; omega
  have HB : Hid (hb p = [x0, x1, x2, x3]) := Lib.hid (by rw [hb, hx0, hx1, hx2, hx3])
  have HE := Lib.hid (he_nums p)
  have K3 : Hid (∀ j, n3 p j < 4294967296) := Lib.hid (fun j => by
    have := hk.1; have := hk.2.1; have := hk.2.2.1
    match j with
    | 0 => exact hk.1
    | 1 => exact hk.2.1
    | 2 => exact hk.2.2.1
    | j + 3 => exact Nat.zero_lt_succ _)
  have K4 : Hid (∀ j, n4 p j < 18446744073709551616) := Lib.hid (fun j => by
    match j with
    | 0 => exact hk.2.2.2.1
    | 1 => exact hk.2.2.2.2.1
    | 2 => exact hk.2.2.2.2.2.1
    | 3 => exact hk.2.2.2.2.2.2.1
    | j + 4 => exact Nat.zero_lt_succ _)
  have e0 : n3 p 0 = p.rd := rfl
  have e1 : n3 p 1 = p.rs := rfl
  have e2 : n3 p 2 = p.rid := rfl
  have f0 : n4 p 0 = p.tref := rfl
  have f1 : n4 p 1 = p.torg := rfl
  have f2 : n4 p 2 = p.trec := rfl
  have f3 : n4 p 3 = p.txm := rfl
  rw [HB.out] at HE
  clear hx0 hx1 hx2 hx3 h hk HB
  rw [← e0, ← e1, ← e2, ← f0, ← f1, ← f2, ← f3]
  clear e0 e1 e2 f0 f1 f2 f3
  generalize n3 p = R at *
  generalize n4 p = U at *
  generalize he p = H at *
  go_enter Try.func18, Try.ntmps18
  go_upto_region 1 with fail
  have N := Blk.new' w #[.int .i64 p.leap, .int .i64 p.ver, .int .i64 p.mode, .int .i64 p.strat, .int .i64 p.poll, .int .i64 p.prec, .int .u32 (R 0 : Nat), .int .u32 (R 1 : Nat), .int .u32 (R 2 : Nat), .int .u64 (U 0 : Nat), .int .u64 (U 1 : Nat), .int .u64 (U 2 : Nat), .int .u64 (U 3 : Nat)] 25
  have B0 := balloc (brefl w) (.cells #[.int .i64 p.leap, .int .i64 p.ver, .int .i64 p.mode, .int .i64 p.strat, .int .i64 p.poll, .int .i64 p.prec, .int .u32 (R 0 : Nat), .int .u32 (R 1 : Nat), .int .u32 (R 2 : Nat), .int .u64 (U 0 : Nat), .int .u64 (U 1 : Nat), .int .u64 (U 2 : Nat), .int .u64 (U 3 : Nat)] 25)
  generalize w.alloc (.cells #[.int .i64 p.leap, .int .i64 p.ver, .int .i64 p.mode, .int .i64 p.strat, .int .i64 p.poll, .int .i64 p.prec, .int .u32 (R 0 : Nat), .int .u32 (R 1 : Nat), .int .u32 (R 2 : Nat), .int .u64 (U 0 : Nat), .int .u64 (U 1 : Nat), .int .u64 (U 2 : Nat), .int .u64 (U 3 : Nat)] 25) = w1 at *
  have S1 : w.heap.size < w1.heap.size := N.1
  obtain ⟨v', w', hr, o', b', s'⟩ := appLg (Own.nil w1 w1.heap.size) [x0, x1, x2, x3] (by simp) (Nat.le_refl _) (by simp) 28
  simp only [cl, List.map_cons, List.map_nil, List.length_cons, List.length_nil, Nat.reduceAdd, List.nil_append] at hr o'
  have c0 := (N.2 0 _ rfl).1
  have c1 := (N.2 1 _ rfl).1
  have c2 := (N.2 2 _ rfl).1
  have c3 := (N.2 3 _ rfl).1
  have c4 := (N.2 4 _ rfl).1
  have c5 := (N.2 5 _ rfl).1
  have c6 := (N.2 6 _ rfl).1
  have c7 := (N.2 7 _ rfl).1
  have c8 := (N.2 8 _ rfl).1
  have c9 := (N.2 9 _ rfl).1
  have c10 := (N.2 10 _ rfl).1
  have c11 := (N.2 11 _ rfl).1
  have c12 := (N.2 12 _ rfl).1
  have N' := N.below b'
  have d6 := (N'.2 6 _ rfl).1
  have d7 := (N'.2 7 _ rfl).1
  have d8 := (N'.2 8 _ rfl).1
  have O1 := Lib.hid o'
  have D1 := Lib.hid b'
  have S2 := Lib.hid b'.size
  have B0 := Lib.hid B0
  clear b' s' o'
  go_wp2_with (first | (at_builtin; refine wpList_append_eq rfl _ _ 28 rfl _ _ v' w' rfl rfl hr ?_))
  have M := Lib.hid (Blk.new' w' #[.int .u32 (R 0 : Nat), .int .u32 (R 1 : Nat), .int .u32 (R 2 : Nat)] 22)
  have O2 := Lib.hid (own_below O1.out (balloc (brefl w') (.cells #[.int .u32 (R 0 : Nat), .int .u32 (R 1 : Nat), .int .u32 (R 2 : Nat)] 22)))
  have D2 := Lib.hid (bstepB D1.out ((balloc (brefl w') (.cells #[.int .u32 (R 0 : Nat), .int .u32 (R 1 : Nat), .int .u32 (R 2 : Nat)] 22)).mono S2.out))
  have NO : Hid (v'.ownBlock ≠ some w'.heap.size) := Lib.hid (fun e => by have := own_lt O1.out e; omega)
  have Z2 : Hid (w1.heap.size ≤ (w'.alloc (.cells #[.int .u32 (R 0 : Nat), .int .u32 (R 1 : Nat), .int .u32 (R 2 : Nat)] 22)).heap.size) := Lib.hid (by have := S2.out; simp; omega)
  generalize w'.alloc (.cells #[.int .u32 (R 0 : Nat), .int .u32 (R 1 : Nat), .int .u32 (R 2 : Nat)] 22) = w2 at *
  clear c0 c1 c2 c3 c4 c5 c6 c7 c8 c9 c10 c11 c12 d6 d7 d8 hr
  go_loopw [0, 40] (fun v iv wr => ∃ j : Nat, j ≤ 3 ∧ Own wr w1.heap.size v ([x0, x1, x2, x3] ++ nums 4 R j) ∧ iv = .int .i64 j ∧ Below w1.heap.size w1 wr ∧ Gr w2 v' wr v) (fun _ iv _ => 3 - (intOf iv).toNat)
  case atStart => exact ⟨0, by omega, by simpa [nums] using O2.out, rfl, D2.out, Gr.rf _ _⟩
  case round =>
    obtain ⟨j, hj, ho, rfl, hbw, hg⟩ := hrel
    rename World => wr
    have HO := Lib.hid ho
    have HB := Lib.hid hbw
    have HG := Lib.hid hg
    clear ho hbw hg
    by_cases c : j < 3
    · have MJ := HG.out.blk M.out NO.out
      have cj : wr.cell? ⟨w'.heap.size, j, none⟩ = some (.int .u32 (R j : Nat)) := (MJ.2 j _ (by
        match j with
        | 0 => rfl
        | 1 => rfl
        | 2 => rfl
        | j + 3 => omega)).1
      have rj := K3.out j
      have r0 : (0 : Int) ≤ (R j : Int) := by omega
      have r1 : (R j : Int) < 4294967296 := by omega
      have jl : (j : Int) < 3 := by omega
      have CA := Lib.hid (appendNumber_g HO.out (Nat.le_trans Z2.out HG.out.1) 4 (R j) (by omega) (by omega) (by rw [List.length_append, nums_len]; simp; omega))
      clear MJ
      go_wp2_with fail
      refine CA.out.mono ?_
      rintro e w3 ⟨v3, rfl, o3, b3, g3⟩
      have O3 := Lib.hid o3
      have B3 := Lib.hid (bstepB HB.out b3)
      have G3 := Lib.hid (HG.out.tr g3)
      clear o3 b3 g3 CA
      go_wp2_with fail
      exact ⟨⟨j + 1, by omega, by rw [nums, ← List.append_assoc]; exact O3.out, rfl, B3.out, G3.out⟩, by simp [intOf]; omega⟩
    · obtain rfl : j = 3 := by omega
      have N2 := N.below HB.out
      have d9 := (N2.2 9 _ rfl).1
      have d10 := (N2.2 10 _ rfl).1
      have d11 := (N2.2 11 _ rfl).1
      have d12 := (N2.2 12 _ rfl).1
      have S4 := Lib.hid (Nat.le_trans Z2.out HG.out.1)
      clear N2
      go_wp2_with fail
      have M4 := Lib.hid (Blk.new' wr #[.int .u64 (U 0 : Nat), .int .u64 (U 1 : Nat), .int .u64 (U 2 : Nat), .int .u64 (U 3 : Nat)] 23)
      have O4 := Lib.hid (own_below HO.out (balloc (brefl wr) (.cells #[.int .u64 (U 0 : Nat), .int .u64 (U 1 : Nat), .int .u64 (U 2 : Nat), .int .u64 (U 3 : Nat)] 23)))
      have D4 := Lib.hid (bstepB HB.out ((balloc (brefl wr) (.cells #[.int .u64 (U 0 : Nat), .int .u64 (U 1 : Nat), .int .u64 (U 2 : Nat), .int .u64 (U 3 : Nat)] 23)).mono S4.out))
      have NO4 := Lib.hid (fun (e : Value.ownBlock _ = some wr.heap.size) => (by have := own_lt HO.out e; omega : False))
      have Z4 : Hid (w1.heap.size ≤ (wr.alloc (.cells #[.int .u64 (U 0 : Nat), .int .u64 (U 1 : Nat), .int .u64 (U 2 : Nat), .int .u64 (U 3 : Nat)] 23)).heap.size) := Lib.hid (by have := S4.out; simp; omega)
      generalize wr.alloc (.cells #[.int .u64 (U 0 : Nat), .int .u64 (U 1 : Nat), .int .u64 (U 2 : Nat), .int .u64 (U 3 : Nat)] 23) = w4 at *
      clear d9 d10 d11 d12
      generalize u0 = v4 at *
      go_loopw [0, 59] (fun v iv wz => ∃ j : Nat, j ≤ 4 ∧ Own wz w1.heap.size v ([x0, x1, x2, x3] ++ nums 4 R 3 ++ nums 8 U j) ∧ iv = .int .i64 j ∧ Below w1.heap.size w1 wz ∧ Gr w4 v4 wz v) (fun _ iv _ => 4 - (intOf iv).toNat)
      case atStart => exact ⟨0, by omega, by simpa [nums] using O4.out, rfl, D4.out, Gr.rf _ _⟩
      case round =>
        obtain ⟨j, hj, ho, rfl, hbw, hg⟩ := hrel
        rename World => wz
        have HO' := Lib.hid ho
        have HB' := Lib.hid hbw
        have HG' := Lib.hid hg
        clear ho hbw hg
        by_cases c : j < 4
        · have MJ := HG'.out.blk M4.out NO4.out
          have cj : wz.cell? ⟨wr.heap.size, j, none⟩ = some (.int .u64 (U j : Nat)) := (MJ.2 j _ (by
            match j with
            | 0 => rfl
            | 1 => rfl
            | 2 => rfl
            | 3 => rfl
            | j + 4 => omega)).1
          have rj := K4.out j
          have r0 : (0 : Int) ≤ (U j : Int) := by omega
          have r1 : (U j : Int) < 18446744073709551616 := by omega
          have jl : (j : Int) < 4 := by omega
          have CA := Lib.hid (appendNumber_g HO'.out (Nat.le_trans Z4.out HG'.out.1) 8 (U j) (by omega) (by omega) (by rw [List.length_append, List.length_append, nums_len, nums_len]; simp; omega))
          clear MJ
          go_wp2_with fail
          refine CA.out.mono ?_
          rintro e w3 ⟨v3, rfl, o3, b3, g3⟩
          have O3 := Lib.hid o3
          have B3 := Lib.hid (bstepB HB'.out b3)
          have G3 := Lib.hid (HG'.out.tr g3)
          clear o3 b3 g3 CA
          go_wp2_with fail
          exact ⟨⟨j + 1, by omega, by rw [nums, ← List.append_assoc]; exact O3.out, rfl, B3.out, G3.out⟩, by simp [intOf]; omega⟩
        · obtain rfl : j = 4 := by omega
          go_wp2_with fail
          go_ret
          exact ⟨⟨_, rfl, by rw [HE.out]; exact HO'.out.le (by omega)⟩, (bstep B0.out (HB'.out))⟩
end Go.Proofs.Ytmjbnbjkpimjmaa.Wi
