/-
  DiskApart: Two disks do not know of each other. The law returns true for every input, and the input reads as it did.
  Conditions: none.
-/
import Derived.Test.YtpnphmfpandmkaaRows
import Derived.Test.YtpnphmfpandmkaaDkS
import Derived.SizedLaws
import Derived.Lib.SmallJoins
namespace Go.Proofs.Ytpnphmfpandmkaa.diskApart
open Go.ChangeShapes Go.WideShapes Go.ChangeAt Go.RowKit Go.Joins By Ct Dk
set_option linter.unusedVariables false
set_option linter.unusedSimpArgs false

theorem own : ownKnob Try.prog.godebug = none := by kernel_rfl
theorem laidOut : laidOutB Try.prog = true := by kernel_rfl
set_option maxRecDepth 100000 in
set_option maxHeartbeats 32000000 in
theorem walk (v0 : Value) (L : List (Ac × Value)) (v1 : Value) (M : List Bool) (w : World) (F : Al w v0 L) (G : Bl w v1 M) : Calls Try.prog 4 #[v0, v1] w fun e w' => e = .returned (.bool true) ∧ Below w.heap.size w w' := by
  obtain ⟨va, vc, rfl⟩ := F.form
  obtain ⟨ba, bc, rfl⟩ := G.form
  have HF := Lib.hid F
  have HG := Lib.hid G
  obtain ⟨n, hn⟩ : ∃ n, L.length = n := ⟨_, rfl⟩
  obtain ⟨p, hp⟩ : ∃ p, M.length = p := ⟨_, rfl⟩
  have LN := Lib.hid hn
  have LP := Lib.hid hp
  have nc : (n : Int) ≤ (vc : Int) := by obtain ⟨_, _, e, h1, _⟩ := F; cases e; omega
  have cm : (vc : Int) ≤ 9223372036854775807 := by obtain ⟨_, _, e, _, h1, _⟩ := F; cases e; omega
  have pc : (p : Int) ≤ (bc : Int) := by obtain ⟨_, _, e, h1, _⟩ := G; cases e; omega
  have bm' : (bc : Int) ≤ 9223372036854775807 := by obtain ⟨_, _, e, _, h1, _⟩ := G; cases e; omega
  have n0 : (0 : Int) ≤ (n : Int) := by omega
  have p0 : (0 : Int) ≤ (p : Int) := by omega
  rw [hn, hp]
  clear F G hn hp
  go_enter Try.func4, Try.ntmps4
  go_wp2_with fail
  refine (awake11_c w).mono ?_
  rintro e w1 ⟨rfl, hb⟩
  have B1 := Lib.hid hb
  clear hb
  go_wp2_with fail
  refine (New_c w1).mono ?_
  rintro e w2 ⟨rfl, hp, hb⟩
  have P2 := Lib.hid hp
  have S2 : Hid (w1.heap.size < w2.heap.size) := Lib.hid (hp.2.2.1 _ rfl)
  have B2 := Lib.hid hb
  clear hp hb
  go_wp2_with fail
  refine (New_c w2).mono ?_
  rintro e w3 ⟨rfl, hp, hb⟩
  have P3 := Lib.hid hp
  have S3 : Hid (w2.heap.size < w3.heap.size) := Lib.hid (hp.2.2.1 _ rfl)
  have B3 := Lib.hid hb
  clear hp hb
  have N3 : Hid (Blk (w3.alloc (.cells #[.pointer (some ⟨w1.heap.size, 0, none⟩), .pointer (some ⟨w2.heap.size, 0, none⟩)] 24)) w3.heap.size [.pointer (some ⟨w1.heap.size, 0, none⟩), .pointer (some ⟨w2.heap.size, 0, none⟩)]) := Lib.hid (Blk.new' w3 #[.pointer (some ⟨w1.heap.size, 0, none⟩), .pointer (some ⟨w2.heap.size, 0, none⟩)] 24)
  have B4 := Lib.hid (balloc (brefl w3) (.cells #[.pointer (some ⟨w1.heap.size, 0, none⟩), .pointer (some ⟨w2.heap.size, 0, none⟩)] 24))
  have S4 : Hid (w3.heap.size < (w3.alloc (.cells #[.pointer (some ⟨w1.heap.size, 0, none⟩), .pointer (some ⟨w2.heap.size, 0, none⟩)] 24)).heap.size) := Lib.hid (by simp)
  go_upto_region 4 with fail
  generalize w3.alloc (.cells #[.pointer (some ⟨w1.heap.size, 0, none⟩), .pointer (some ⟨w2.heap.size, 0, none⟩)] 24) = w4 at *
  go_wp2_with fail
  refine (rNew_c w4).mono ?_
  rintro e w5 ⟨rfl, hp, hb⟩
  have P5 := Lib.hid hp
  have S5 : Hid (w4.heap.size < w5.heap.size) := Lib.hid (hp.2.2.1 _ rfl)
  have B5 := Lib.hid hb
  clear hp hb
  go_wp2_with fail
  refine (rNew_c w5).mono ?_
  rintro e w6 ⟨rfl, hp, hb⟩
  have P6 := Lib.hid hp
  have S6 : Hid (w5.heap.size < w6.heap.size) := Lib.hid (hp.2.2.1 _ rfl)
  have B6 := Lib.hid hb
  clear hp hb
  have N6 : Hid (Blk (w6.alloc (.cells #[.pointer (some ⟨w4.heap.size, 0, none⟩), .pointer (some ⟨w5.heap.size, 0, none⟩)] 26)) w6.heap.size [.pointer (some ⟨w4.heap.size, 0, none⟩), .pointer (some ⟨w5.heap.size, 0, none⟩)]) := Lib.hid (Blk.new' w6 #[.pointer (some ⟨w4.heap.size, 0, none⟩), .pointer (some ⟨w5.heap.size, 0, none⟩)] 26)
  have B7 := Lib.hid (balloc (brefl w6) (.cells #[.pointer (some ⟨w4.heap.size, 0, none⟩), .pointer (some ⟨w5.heap.size, 0, none⟩)] 26))
  go_upto_region 6 with fail
  generalize w6.alloc (.cells #[.pointer (some ⟨w4.heap.size, 0, none⟩), .pointer (some ⟨w5.heap.size, 0, none⟩)] 26) = w7 at *
  have B57 := Lib.hid (bstep B6.out B7.out)
  have B47 := Lib.hid (bstep B5.out B57.out)
  have B37 := Lib.hid (bstep B4.out B47.out)
  have B27 := Lib.hid (bstep B3.out B37.out)
  have B17 := Lib.hid (bstep B2.out B27.out)
  have BW7 := Lib.hid (bstep B1.out B17.out)
  have Z1 := B1.out.size
  have Z2 := S2.out
  have Z3 := S3.out
  have Z4 := S4.out
  have Z5 := S5.out
  have Z6 := S6.out
  have BDK := Lib.hid (N3.out.below B47.out)
  have BMK := N6
  have P0' := P2.out.below B27.out
  have P1' := P3.out.below B37.out
  have R0' := P5.out.below B57.out
  have R1' := P6.out.below B7.out
  have Q0 : Hid (Qd w w7 (fun k => k = w3.heap.size ∨ k = w6.heap.size) w1.heap.size w4.heap.size new (Td w1.heap.size) (Td w4.heap.size) w2.heap.size w5.heap.size new (Td w2.heap.size) (Td w5.heap.size)) := Lib.hid ⟨⟨P0', R0', fun k hx hy => by have a : k = w1.heap.size := hx; have b : k = w4.heap.size := hy; omega⟩, ⟨P1', R1', fun k hx hy => by have a : k = w2.heap.size := hx; have b : k = w5.heap.size := hy; omega⟩,
    fun k hk => by
      have a : k = w1.heap.size ∨ k = w4.heap.size := hk
      refine ⟨fun z => ?_, by omega, fun z => by omega⟩
      have b : k = w2.heap.size ∨ k = w5.heap.size := z
      omega,
    fun k hk => by
      have a : k = w2.heap.size ∨ k = w5.heap.size := hk
      exact ⟨by omega, fun z => by omega⟩⟩
  clear P0' P1' R0' R1' P2 P3 P5 P6 N3 N6 B57 B47 B37 B27 B17 S2 S3 S4 S5 S6 B1 B2 B3 B4 B5 B6 B7 Z1 Z2 Z3 Z4 Z5 Z6
  generalize w1.heap.size = d0 at *
  generalize w2.heap.size = d1 at *
  generalize w4.heap.size = m0 at *
  generalize w5.heap.size = m1 at *
  generalize w3.heap.size = bd at *
  generalize w6.heap.size = bm at *
  go_loopw [7] (fun iv wr => ∃ (k : Nat) (s0 s1 : Dk) (X0 Y0 X1 Y1 : Nat → Prop), k ≤ n ∧ k ≤ 500 ∧ iv = .int .i64 (k : Nat) ∧ Qd w wr (fun k => k = bd ∨ k = bm) d0 m0 s0 X0 Y0 d1 m1 s1 X1 Y1 ∧ s0.fs.length ≤ k ∧ s1.fs.length ≤ k ∧ Blk wr bd [.pointer (some ⟨d0, 0, none⟩), .pointer (some ⟨d1, 0, none⟩)] ∧ Blk wr bm [.pointer (some ⟨m0, 0, none⟩), .pointer (some ⟨m1, 0, none⟩)] ∧ Below w.heap.size w wr) (fun iv _ => n - (intOf iv).toNat)
  case atStart => exact ⟨0, new, new, _, _, _, _, Nat.zero_le _, Nat.zero_le _, rfl, Q0.out, Nat.zero_le _, Nat.zero_le _, BDK.out, BMK.out, BW7.out⟩
  case round =>
    clear Q0 BDK BMK BW7
    obtain ⟨k, s0, s1, X0, Y0, X1, Y1, hk, hk2, rfl, hq, hs0, hs1, hbd, hbm, hb⟩ := hrel
    rename World => wr
    have Q := Lib.hid hq
    have HB := Lib.hid hb
    have BDK := Lib.hid hbd
    have BMK := Lib.hid hbm
    clear hq hb hbd hbm
    by_cases c : k < n
    · have e1 : decide ((k : Int) < (n : Int)) = true := decide_eq_true (by omega)
      by_cases c2 : k < 500
      · have e2 : decide ((k : Int) < 500) = true := decide_eq_true (by omega)
        have i1 : (k : Int) < (n : Int) := by omega
        have i0 : (0 : Int) ≤ (k : Int) := by omega
        obtain ⟨x, hx⟩ : ∃ x, L[k]? = some x := ⟨_, List.getElem?_eq_getElem (by rw [LN.out]; exact c)⟩
        have hS0 : Sl w x.2 x.1.dat := by obtain ⟨_, _, _, _, _, _, q⟩ := al_at HF.out hx; exact q
        have hW0 : ∀ b off, va = some ⟨b, off, none⟩ → b < w.heap.size := fun b off e => by obtain ⟨b', off', e', q, _⟩ := al_at HF.out hx; rw [e'] at e; cases e; exact q
        obtain ⟨b, off, rfl, hbb, rg, hbd, hS⟩ := al_at (HF.out.below HB.out) hx
        obtain ⟨x, dv⟩ := x
        simp only at rg hS hS0 hbd
        obtain ⟨fa, fc, ef⟩ := hS.form
        subst ef
        have RG := Lib.hid rg
        have HBD := Lib.hid hbd
        have HSL := Lib.hid hS
        have HS0 := Lib.hid hS0
        have HBB := Lib.hid hbb
        have HBW := Lib.hid (hW0 b off rfl)
        clear rg hS hS0 hbd hx hbb hW0
        have HP : p ≤ k ∨ k < p := by omega
        rcases HP with c3 | c3
        · have e3 : decide ((k : Int) < (p : Int)) = false := decide_eq_false (by omega)
          have QB : Hid (Bo wr d0 m0 s0 X0 Y0) := Lib.hid (Q.out.1)
          have ST : Hid (∀ z, Below wr.heap.size wr z → Calls Try.prog 10 #[.pointer (some ⟨d0, 0, none⟩), .pointer (some ⟨m0, 0, none⟩), AV x (.slice fa x.dat.length fc)] z fun e w' => e = .returned (.bool true) ∧ ∃ s', s'.fs.length ≤ s0.fs.length + 1 ∧ Bt z w' d0 m0 X0 Y0 s') := Lib.hid (fun z qz => step_c (QB.out.below qz) (by omega) HBD.out (HSL.out.below qz) (fun h0 g hg => ⟨fun q => by have := (Q.out.2.2.1 g (.inl q)).2.1; have := sl_lt HS0.out h0 g hg; omega, fun q => by have := (Q.out.2.2.1 g (.inr q)).2.1; have := sl_lt HS0.out h0 g hg; omega⟩))
          go_upto_region 11 with fail
          refine wp_region_held_drew (S := fun w' => w'.cell? ⟨bd, 0, none⟩ = some (.pointer (some ⟨d0, 0, none⟩)) ∧ w'.cell? ⟨bm, 0, none⟩ = some (.pointer (some ⟨m0, 0, none⟩)) ∧ w'.rangeAt b (off + k * 6) [.int .i64 x.k, .int .i64 x.n, .int .i64 x.p, .string x.a, .string x.b, .slice fa x.dat.length fc]) (by kernel_rfl) ⟨(BDK.out.2 0 _ rfl).1, (BMK.out.2 0 _ rfl).1, RG.out⟩ (fun hHeld => ?_)
          refine wpAnyH_take (i := 0) (v := ?_) rfl (by kernel_rfl) (by kernel_rfl) (by kernel_rfl) (fun _ _ _ h => h) (Or.inl ⟨by rfl, ?_⟩) hHeld ?_
          rotate_left
          · ((intro w _; go_simp); try with_reducible rfl)
          (try simp only [List.getElem_toArray, List.getElem_cons_succ, List.getElem_cons_zero, Act.put, List.setIfInBounds_toArray, List.set_cons_zero, List.set_cons_succ])
          refine wpAnyH_take (i := 1) (v := ?_) rfl (by kernel_rfl) (by kernel_rfl) (by kernel_rfl) (fun _ _ _ h => h) (Or.inl ⟨by rfl, ?_⟩) hHeld ?_
          rotate_left
          · ((intro w _; go_simp); try with_reducible rfl)
          (try simp only [List.getElem_toArray, List.getElem_cons_succ, List.getElem_cons_zero, Act.put, List.setIfInBounds_toArray, List.set_cons_zero, List.set_cons_succ])
          refine wpAnyH_take (i := 2) (v := ?_) rfl (by kernel_rfl) (by kernel_rfl) (by kernel_rfl) (fun _ _ _ h => h) (Or.inl ⟨by rfl, ?_⟩) hHeld ?_
          rotate_left
          · ((intro w _; go_simp); try with_reducible rfl)
          (try simp only [List.getElem_toArray, List.getElem_cons_succ, List.getElem_cons_zero, Act.put, List.setIfInBounds_toArray, List.set_cons_zero, List.set_cons_succ])
          refine wpAnyH_take (i := 3) (v := ?_) rfl (by kernel_rfl) (by kernel_rfl) (by kernel_rfl) (fun _ _ _ h => h) (Or.inl ⟨by rfl, ?_⟩) hHeld ?_
          rotate_left
          · (intro w hSw; obtain ⟨z1, _, _⟩ := hSw; go_simp; try with_reducible rfl)
          (try simp only [List.getElem_toArray, List.getElem_cons_succ, List.getElem_cons_zero, Act.put, List.setIfInBounds_toArray, List.set_cons_zero, List.set_cons_succ])
          refine wpAnyH_take (i := 4) (v := ?_) rfl (by kernel_rfl) (by kernel_rfl) (by kernel_rfl) (fun _ _ _ h => h) (Or.inl ⟨by rfl, ?_⟩) hHeld ?_
          rotate_left
          · ((intro w _; go_simp); try with_reducible rfl)
          (try simp only [List.getElem_toArray, List.getElem_cons_succ, List.getElem_cons_zero, Act.put, List.setIfInBounds_toArray, List.set_cons_zero, List.set_cons_succ])
          refine wpAnyH_take (i := 5) (v := ?_) rfl (by kernel_rfl) (by kernel_rfl) (by kernel_rfl) (fun _ _ _ h => h) (Or.inl ⟨by rfl, ?_⟩) hHeld ?_
          rotate_left
          · ((intro w _; go_simp); try with_reducible rfl)
          (try simp only [List.getElem_toArray, List.getElem_cons_succ, List.getElem_cons_zero, Act.put, List.setIfInBounds_toArray, List.set_cons_zero, List.set_cons_succ])
          refine wpAnyH_take (i := 6) (v := ?_) rfl (by kernel_rfl) (by kernel_rfl) (by kernel_rfl) (fun _ _ _ h => h) (Or.inl ⟨by rfl, ?_⟩) hHeld ?_
          rotate_left
          · ((intro w _; go_simp); try with_reducible rfl)
          (try simp only [List.getElem_toArray, List.getElem_cons_succ, List.getElem_cons_zero, Act.put, List.setIfInBounds_toArray, List.set_cons_zero, List.set_cons_succ])
          refine wpAnyH_take (i := 7) (v := ?_) rfl (by kernel_rfl) (by kernel_rfl) (by kernel_rfl) (fun _ _ _ h => h) (Or.inl ⟨by rfl, ?_⟩) hHeld ?_
          rotate_left
          · (intro w hSw; obtain ⟨_, z1, _⟩ := hSw; go_simp; try with_reducible rfl)
          (try simp only [List.getElem_toArray, List.getElem_cons_succ, List.getElem_cons_zero, Act.put, List.setIfInBounds_toArray, List.set_cons_zero, List.set_cons_succ])
          refine wpAnyH_take (i := 8) (v := ?_) rfl (by kernel_rfl) (by kernel_rfl) (by kernel_rfl) (fun _ _ _ h => h) (Or.inl ⟨by rfl, ?_⟩) hHeld ?_
          rotate_left
          · ((intro w _; go_simp); try with_reducible rfl)
          (try simp only [List.getElem_toArray, List.getElem_cons_succ, List.getElem_cons_zero, Act.put, List.setIfInBounds_toArray, List.set_cons_zero, List.set_cons_succ])
          refine wpAnyH_take (i := 9) (v := ?_) rfl (by kernel_rfl) (by kernel_rfl) (by kernel_rfl) (fun _ _ _ h => h) (Or.inl ⟨by rfl, ?_⟩) hHeld ?_
          rotate_left
          · ((intro w _; go_simp); try with_reducible rfl)
          (try simp only [List.getElem_toArray, List.getElem_cons_succ, List.getElem_cons_zero, Act.put, List.setIfInBounds_toArray, List.set_cons_zero, List.set_cons_succ])
          refine wpAnyH_take (i := 10) (v := ?_) rfl (by kernel_rfl) (by kernel_rfl) (by kernel_rfl) (fun _ _ _ h => h) (Or.inl ⟨by rfl, ?_⟩) hHeld ?_
          rotate_left
          · ((intro w _; go_simp); try with_reducible rfl)
          (try simp only [List.getElem_toArray, List.getElem_cons_succ, List.getElem_cons_zero, Act.put, List.setIfInBounds_toArray, List.set_cons_zero, List.set_cons_succ])
          refine wpAnyH_take (i := 11) rfl (by kernel_rfl) (by kernel_rfl) (by kernel_rfl) (fun _ _ _ h => h) (yieldsIf_load_mid (by rfl) _ _ rfl _ _ rfl [.int .i64 x.k, .int .i64 x.n, .int .i64 x.p, .string x.a, .string x.b, .slice fa x.dat.length fc] _ (fun w h => h.2.2) Try.underlying31 rfl (by exact info_act)) hHeld ?_
          (try simp only [List.getElem_toArray, List.getElem_cons_succ, List.getElem_cons_zero, Act.put, List.setIfInBounds_toArray, List.set_cons_zero, List.set_cons_succ])
          refine wpAnyH_ready (rs := [12]) (by kernel_rfl) (by simp) (AllReadyH.cons rfl (fun KQ hKQ => ?_) AllReadyH.nil)
          go_simp
          refine (ST.out _ (brefl wr).drew).mono ?_
          rintro e w' ⟨rfl, s', hs', bt⟩
          have BD2 := Lib.hid (blk_keep (BDK.out.below (brefl wr).drew) (bt.tu.block bd BDK.out.1 (fun z => (Q.out.2.2.1 bd z).2.2 (.inl rfl))) bt.tu.size)
          have BM2 := Lib.hid (blk_keep (BMK.out.below (brefl wr).drew) (bt.tu.block bm BMK.out.1 (fun z => (Q.out.2.2.1 bm z).2.2 (.inr rfl))) bt.tu.size)
          have TW : Hid (Below w.heap.size w w') := Lib.hid ((HB.out.trans ((brefl wr).drew.mono HB.out.size)).trans (bt.tu.below (fun i hi => (Q.out.2.2.1 i hi).2.1) HB.out.size))
          have hNext := (⟨(BD2.out.2 0 _ rfl).1, (BM2.out.2 0 _ rfl).1, range_tu hHeld.2.2 bt.tu HBB.out (fun z => by have := (Q.out.2.2.1 b z).2.1; have := HBW.out; omega)⟩ : _ ∧ _ ∧ w'.rangeAt b (off + k * 6) [.int .i64 x.k, .int .i64 x.n, .int .i64 x.p, .string x.a, .string x.b, .slice fa x.dat.length fc])
          obtain ⟨X2, Y2, hq2⟩ := Qd.step (Q.out.below (brefl wr).drew) bt HB.out.size (fun j hj => hj.elim (fun z => by rw [z]; exact BDK.out.1) (fun z => by rw [z]; exact BMK.out.1))
          have Q2 := Lib.hid hq2
          clear bt hq2
          go_wp2_with fail
          refine hKQ.out _ _ hNext (fun hH2 => ?_)
          clear hKQ KQ hHeld hNext
          have hHeld := hH2
          clear hH2
          (try simp only [List.getElem_toArray, List.getElem_cons_succ, List.getElem_cons_zero, Act.put, List.setIfInBounds_toArray, List.set_cons_zero, List.set_cons_succ])
          refine wpAnyH_take (i := 13) (v := ?_) rfl (by kernel_rfl) (by kernel_rfl) (by kernel_rfl) (fun _ _ _ h => h) (Or.inl ⟨by rfl, ?_⟩) hHeld ?_
          rotate_left
          · ((intro w _; go_simp); try with_reducible rfl)
          (try simp only [List.getElem_toArray, List.getElem_cons_succ, List.getElem_cons_zero, Act.put, List.setIfInBounds_toArray, List.set_cons_zero, List.set_cons_succ])
          refine wpAnyH_done (by kernel_rfl) ?_ _
          go_wp2_with fail
          exact ⟨⟨k + 1, s', s1, X2, Y2, X1, Y1, by omega, by omega, by go_num, Q2.out, by omega, by omega, BD2.out, BM2.out, TW.out⟩, by simp [intOf]; omega⟩
        · have e3 : decide ((k : Int) < (p : Int)) = true := decide_eq_true (by omega)
          have i3 : (k : Int) < (p : Int) := by omega
          obtain ⟨y, hy⟩ : ∃ y, M[k]? = some y := ⟨_, List.getElem?_eq_getElem (by rw [LP.out]; exact c3)⟩
          obtain ⟨b', off', rfl, _, hy2⟩ := bl_at (HG.out.below HB.out) hy
          clear hy
          cases y with
          | false =>
            have QB : Hid (Bo wr d0 m0 s0 X0 Y0) := Lib.hid (Q.out.1)
            have ST : Hid (∀ z, Below wr.heap.size wr z → Calls Try.prog 10 #[.pointer (some ⟨d0, 0, none⟩), .pointer (some ⟨m0, 0, none⟩), AV x (.slice fa x.dat.length fc)] z fun e w' => e = .returned (.bool true) ∧ ∃ s', s'.fs.length ≤ s0.fs.length + 1 ∧ Bt z w' d0 m0 X0 Y0 s') := Lib.hid (fun z qz => step_c (QB.out.below qz) (by omega) HBD.out (HSL.out.below qz) (fun h0 g hg => ⟨fun q => by have := (Q.out.2.2.1 g (.inl q)).2.1; have := sl_lt HS0.out h0 g hg; omega, fun q => by have := (Q.out.2.2.1 g (.inr q)).2.1; have := sl_lt HS0.out h0 g hg; omega⟩))
            go_upto_region 11 with fail
            refine wp_region_held_drew (S := fun w' => w'.cell? ⟨bd, 0, none⟩ = some (.pointer (some ⟨d0, 0, none⟩)) ∧ w'.cell? ⟨bm, 0, none⟩ = some (.pointer (some ⟨m0, 0, none⟩)) ∧ w'.rangeAt b (off + k * 6) [.int .i64 x.k, .int .i64 x.n, .int .i64 x.p, .string x.a, .string x.b, .slice fa x.dat.length fc]) (by kernel_rfl) ⟨(BDK.out.2 0 _ rfl).1, (BMK.out.2 0 _ rfl).1, RG.out⟩ (fun hHeld => ?_)
            refine wpAnyH_take (i := 0) (v := ?_) rfl (by kernel_rfl) (by kernel_rfl) (by kernel_rfl) (fun _ _ _ h => h) (Or.inl ⟨by rfl, ?_⟩) hHeld ?_
            rotate_left
            · ((intro w _; go_simp); try with_reducible rfl)
            (try simp only [List.getElem_toArray, List.getElem_cons_succ, List.getElem_cons_zero, Act.put, List.setIfInBounds_toArray, List.set_cons_zero, List.set_cons_succ])
            refine wpAnyH_take (i := 1) (v := ?_) rfl (by kernel_rfl) (by kernel_rfl) (by kernel_rfl) (fun _ _ _ h => h) (Or.inl ⟨by rfl, ?_⟩) hHeld ?_
            rotate_left
            · ((intro w _; go_simp); try with_reducible rfl)
            (try simp only [List.getElem_toArray, List.getElem_cons_succ, List.getElem_cons_zero, Act.put, List.setIfInBounds_toArray, List.set_cons_zero, List.set_cons_succ])
            refine wpAnyH_take (i := 2) (v := ?_) rfl (by kernel_rfl) (by kernel_rfl) (by kernel_rfl) (fun _ _ _ h => h) (Or.inl ⟨by rfl, ?_⟩) hHeld ?_
            rotate_left
            · ((intro w _; go_simp); try with_reducible rfl)
            (try simp only [List.getElem_toArray, List.getElem_cons_succ, List.getElem_cons_zero, Act.put, List.setIfInBounds_toArray, List.set_cons_zero, List.set_cons_succ])
            refine wpAnyH_take (i := 3) (v := ?_) rfl (by kernel_rfl) (by kernel_rfl) (by kernel_rfl) (fun _ _ _ h => h) (Or.inl ⟨by rfl, ?_⟩) hHeld ?_
            rotate_left
            · (intro w hSw; obtain ⟨z1, _, _⟩ := hSw; go_simp; try with_reducible rfl)
            (try simp only [List.getElem_toArray, List.getElem_cons_succ, List.getElem_cons_zero, Act.put, List.setIfInBounds_toArray, List.set_cons_zero, List.set_cons_succ])
            refine wpAnyH_take (i := 4) (v := ?_) rfl (by kernel_rfl) (by kernel_rfl) (by kernel_rfl) (fun _ _ _ h => h) (Or.inl ⟨by rfl, ?_⟩) hHeld ?_
            rotate_left
            · ((intro w _; go_simp); try with_reducible rfl)
            (try simp only [List.getElem_toArray, List.getElem_cons_succ, List.getElem_cons_zero, Act.put, List.setIfInBounds_toArray, List.set_cons_zero, List.set_cons_succ])
            refine wpAnyH_take (i := 5) (v := ?_) rfl (by kernel_rfl) (by kernel_rfl) (by kernel_rfl) (fun _ _ _ h => h) (Or.inl ⟨by rfl, ?_⟩) hHeld ?_
            rotate_left
            · ((intro w _; go_simp); try with_reducible rfl)
            (try simp only [List.getElem_toArray, List.getElem_cons_succ, List.getElem_cons_zero, Act.put, List.setIfInBounds_toArray, List.set_cons_zero, List.set_cons_succ])
            refine wpAnyH_take (i := 6) (v := ?_) rfl (by kernel_rfl) (by kernel_rfl) (by kernel_rfl) (fun _ _ _ h => h) (Or.inl ⟨by rfl, ?_⟩) hHeld ?_
            rotate_left
            · ((intro w _; go_simp); try with_reducible rfl)
            (try simp only [List.getElem_toArray, List.getElem_cons_succ, List.getElem_cons_zero, Act.put, List.setIfInBounds_toArray, List.set_cons_zero, List.set_cons_succ])
            refine wpAnyH_take (i := 7) (v := ?_) rfl (by kernel_rfl) (by kernel_rfl) (by kernel_rfl) (fun _ _ _ h => h) (Or.inl ⟨by rfl, ?_⟩) hHeld ?_
            rotate_left
            · (intro w hSw; obtain ⟨_, z1, _⟩ := hSw; go_simp; try with_reducible rfl)
            (try simp only [List.getElem_toArray, List.getElem_cons_succ, List.getElem_cons_zero, Act.put, List.setIfInBounds_toArray, List.set_cons_zero, List.set_cons_succ])
            refine wpAnyH_take (i := 8) (v := ?_) rfl (by kernel_rfl) (by kernel_rfl) (by kernel_rfl) (fun _ _ _ h => h) (Or.inl ⟨by rfl, ?_⟩) hHeld ?_
            rotate_left
            · ((intro w _; go_simp); try with_reducible rfl)
            (try simp only [List.getElem_toArray, List.getElem_cons_succ, List.getElem_cons_zero, Act.put, List.setIfInBounds_toArray, List.set_cons_zero, List.set_cons_succ])
            refine wpAnyH_take (i := 9) (v := ?_) rfl (by kernel_rfl) (by kernel_rfl) (by kernel_rfl) (fun _ _ _ h => h) (Or.inl ⟨by rfl, ?_⟩) hHeld ?_
            rotate_left
            · ((intro w _; go_simp); try with_reducible rfl)
            (try simp only [List.getElem_toArray, List.getElem_cons_succ, List.getElem_cons_zero, Act.put, List.setIfInBounds_toArray, List.set_cons_zero, List.set_cons_succ])
            refine wpAnyH_take (i := 10) (v := ?_) rfl (by kernel_rfl) (by kernel_rfl) (by kernel_rfl) (fun _ _ _ h => h) (Or.inl ⟨by rfl, ?_⟩) hHeld ?_
            rotate_left
            · ((intro w _; go_simp); try with_reducible rfl)
            (try simp only [List.getElem_toArray, List.getElem_cons_succ, List.getElem_cons_zero, Act.put, List.setIfInBounds_toArray, List.set_cons_zero, List.set_cons_succ])
            refine wpAnyH_take (i := 11) rfl (by kernel_rfl) (by kernel_rfl) (by kernel_rfl) (fun _ _ _ h => h) (yieldsIf_load_mid (by rfl) _ _ rfl _ _ rfl [.int .i64 x.k, .int .i64 x.n, .int .i64 x.p, .string x.a, .string x.b, .slice fa x.dat.length fc] _ (fun w h => h.2.2) Try.underlying31 rfl (by exact info_act)) hHeld ?_
            (try simp only [List.getElem_toArray, List.getElem_cons_succ, List.getElem_cons_zero, Act.put, List.setIfInBounds_toArray, List.set_cons_zero, List.set_cons_succ])
            refine wpAnyH_ready (rs := [12]) (by kernel_rfl) (by simp) (AllReadyH.cons rfl (fun KQ hKQ => ?_) AllReadyH.nil)
            go_simp
            refine (ST.out _ (brefl wr).drew).mono ?_
            rintro e w' ⟨rfl, s', hs', bt⟩
            have BD2 := Lib.hid (blk_keep (BDK.out.below (brefl wr).drew) (bt.tu.block bd BDK.out.1 (fun z => (Q.out.2.2.1 bd z).2.2 (.inl rfl))) bt.tu.size)
            have BM2 := Lib.hid (blk_keep (BMK.out.below (brefl wr).drew) (bt.tu.block bm BMK.out.1 (fun z => (Q.out.2.2.1 bm z).2.2 (.inr rfl))) bt.tu.size)
            have TW : Hid (Below w.heap.size w w') := Lib.hid ((HB.out.trans ((brefl wr).drew.mono HB.out.size)).trans (bt.tu.below (fun i hi => (Q.out.2.2.1 i hi).2.1) HB.out.size))
            have hNext := (⟨(BD2.out.2 0 _ rfl).1, (BM2.out.2 0 _ rfl).1, range_tu hHeld.2.2 bt.tu HBB.out (fun z => by have := (Q.out.2.2.1 b z).2.1; have := HBW.out; omega)⟩ : _ ∧ _ ∧ w'.rangeAt b (off + k * 6) [.int .i64 x.k, .int .i64 x.n, .int .i64 x.p, .string x.a, .string x.b, .slice fa x.dat.length fc])
            obtain ⟨X2, Y2, hq2⟩ := Qd.step (Q.out.below (brefl wr).drew) bt HB.out.size (fun j hj => hj.elim (fun z => by rw [z]; exact BDK.out.1) (fun z => by rw [z]; exact BMK.out.1))
            have Q2 := Lib.hid hq2
            clear bt hq2
            go_wp2_with fail
            refine hKQ.out _ _ hNext (fun hH2 => ?_)
            clear hKQ KQ hHeld hNext
            have hHeld := hH2
            clear hH2
            (try simp only [List.getElem_toArray, List.getElem_cons_succ, List.getElem_cons_zero, Act.put, List.setIfInBounds_toArray, List.set_cons_zero, List.set_cons_succ])
            refine wpAnyH_take (i := 13) (v := ?_) rfl (by kernel_rfl) (by kernel_rfl) (by kernel_rfl) (fun _ _ _ h => h) (Or.inl ⟨by rfl, ?_⟩) hHeld ?_
            rotate_left
            · ((intro w _; go_simp); try with_reducible rfl)
            (try simp only [List.getElem_toArray, List.getElem_cons_succ, List.getElem_cons_zero, Act.put, List.setIfInBounds_toArray, List.set_cons_zero, List.set_cons_succ])
            refine wpAnyH_done (by kernel_rfl) ?_ _
            go_wp2_with fail
            exact ⟨⟨k + 1, s', s1, X2, Y2, X1, Y1, by omega, by omega, by go_num, Q2.out, by omega, by omega, BD2.out, BM2.out, TW.out⟩, by simp [intOf]; omega⟩
          | true =>
            have QB : Hid (Bo wr d1 m1 s1 X1 Y1) := Lib.hid (Q.out.swap.1)
            have ST : Hid (∀ z, Below wr.heap.size wr z → Calls Try.prog 10 #[.pointer (some ⟨d1, 0, none⟩), .pointer (some ⟨m1, 0, none⟩), AV x (.slice fa x.dat.length fc)] z fun e w' => e = .returned (.bool true) ∧ ∃ s', s'.fs.length ≤ s1.fs.length + 1 ∧ Bt z w' d1 m1 X1 Y1 s') := Lib.hid (fun z qz => step_c (QB.out.below qz) (by omega) HBD.out (HSL.out.below qz) (fun h0 g hg => ⟨fun q => by have := (Q.out.swap.2.2.1 g (.inl q)).2.1; have := sl_lt HS0.out h0 g hg; omega, fun q => by have := (Q.out.swap.2.2.1 g (.inr q)).2.1; have := sl_lt HS0.out h0 g hg; omega⟩))
            go_upto_region 11 with fail
            refine wp_region_held_drew (S := fun w' => w'.cell? ⟨bd, 1, none⟩ = some (.pointer (some ⟨d1, 0, none⟩)) ∧ w'.cell? ⟨bm, 1, none⟩ = some (.pointer (some ⟨m1, 0, none⟩)) ∧ w'.rangeAt b (off + k * 6) [.int .i64 x.k, .int .i64 x.n, .int .i64 x.p, .string x.a, .string x.b, .slice fa x.dat.length fc]) (by kernel_rfl) ⟨(BDK.out.2 1 _ rfl).1, (BMK.out.2 1 _ rfl).1, RG.out⟩ (fun hHeld => ?_)
            refine wpAnyH_take (i := 0) (v := ?_) rfl (by kernel_rfl) (by kernel_rfl) (by kernel_rfl) (fun _ _ _ h => h) (Or.inl ⟨by rfl, ?_⟩) hHeld ?_
            rotate_left
            · ((intro w _; go_simp); try with_reducible rfl)
            (try simp only [List.getElem_toArray, List.getElem_cons_succ, List.getElem_cons_zero, Act.put, List.setIfInBounds_toArray, List.set_cons_zero, List.set_cons_succ])
            refine wpAnyH_take (i := 1) (v := ?_) rfl (by kernel_rfl) (by kernel_rfl) (by kernel_rfl) (fun _ _ _ h => h) (Or.inl ⟨by rfl, ?_⟩) hHeld ?_
            rotate_left
            · ((intro w _; go_simp); try with_reducible rfl)
            (try simp only [List.getElem_toArray, List.getElem_cons_succ, List.getElem_cons_zero, Act.put, List.setIfInBounds_toArray, List.set_cons_zero, List.set_cons_succ])
            refine wpAnyH_take (i := 2) (v := ?_) rfl (by kernel_rfl) (by kernel_rfl) (by kernel_rfl) (fun _ _ _ h => h) (Or.inl ⟨by rfl, ?_⟩) hHeld ?_
            rotate_left
            · ((intro w _; go_simp); try with_reducible rfl)
            (try simp only [List.getElem_toArray, List.getElem_cons_succ, List.getElem_cons_zero, Act.put, List.setIfInBounds_toArray, List.set_cons_zero, List.set_cons_succ])
            refine wpAnyH_take (i := 3) (v := ?_) rfl (by kernel_rfl) (by kernel_rfl) (by kernel_rfl) (fun _ _ _ h => h) (Or.inl ⟨by rfl, ?_⟩) hHeld ?_
            rotate_left
            · (intro w hSw; obtain ⟨z1, _, _⟩ := hSw; go_simp; try with_reducible rfl)
            (try simp only [List.getElem_toArray, List.getElem_cons_succ, List.getElem_cons_zero, Act.put, List.setIfInBounds_toArray, List.set_cons_zero, List.set_cons_succ])
            refine wpAnyH_take (i := 4) (v := ?_) rfl (by kernel_rfl) (by kernel_rfl) (by kernel_rfl) (fun _ _ _ h => h) (Or.inl ⟨by rfl, ?_⟩) hHeld ?_
            rotate_left
            · ((intro w _; go_simp); try with_reducible rfl)
            (try simp only [List.getElem_toArray, List.getElem_cons_succ, List.getElem_cons_zero, Act.put, List.setIfInBounds_toArray, List.set_cons_zero, List.set_cons_succ])
            refine wpAnyH_take (i := 5) (v := ?_) rfl (by kernel_rfl) (by kernel_rfl) (by kernel_rfl) (fun _ _ _ h => h) (Or.inl ⟨by rfl, ?_⟩) hHeld ?_
            rotate_left
            · ((intro w _; go_simp); try with_reducible rfl)
            (try simp only [List.getElem_toArray, List.getElem_cons_succ, List.getElem_cons_zero, Act.put, List.setIfInBounds_toArray, List.set_cons_zero, List.set_cons_succ])
            refine wpAnyH_take (i := 6) (v := ?_) rfl (by kernel_rfl) (by kernel_rfl) (by kernel_rfl) (fun _ _ _ h => h) (Or.inl ⟨by rfl, ?_⟩) hHeld ?_
            rotate_left
            · ((intro w _; go_simp); try with_reducible rfl)
            (try simp only [List.getElem_toArray, List.getElem_cons_succ, List.getElem_cons_zero, Act.put, List.setIfInBounds_toArray, List.set_cons_zero, List.set_cons_succ])
            refine wpAnyH_take (i := 7) (v := ?_) rfl (by kernel_rfl) (by kernel_rfl) (by kernel_rfl) (fun _ _ _ h => h) (Or.inl ⟨by rfl, ?_⟩) hHeld ?_
            rotate_left
            · (intro w hSw; obtain ⟨_, z1, _⟩ := hSw; go_simp; try with_reducible rfl)
            (try simp only [List.getElem_toArray, List.getElem_cons_succ, List.getElem_cons_zero, Act.put, List.setIfInBounds_toArray, List.set_cons_zero, List.set_cons_succ])
            refine wpAnyH_take (i := 8) (v := ?_) rfl (by kernel_rfl) (by kernel_rfl) (by kernel_rfl) (fun _ _ _ h => h) (Or.inl ⟨by rfl, ?_⟩) hHeld ?_
            rotate_left
            · ((intro w _; go_simp); try with_reducible rfl)
            (try simp only [List.getElem_toArray, List.getElem_cons_succ, List.getElem_cons_zero, Act.put, List.setIfInBounds_toArray, List.set_cons_zero, List.set_cons_succ])
            refine wpAnyH_take (i := 9) (v := ?_) rfl (by kernel_rfl) (by kernel_rfl) (by kernel_rfl) (fun _ _ _ h => h) (Or.inl ⟨by rfl, ?_⟩) hHeld ?_
            rotate_left
            · ((intro w _; go_simp); try with_reducible rfl)
            (try simp only [List.getElem_toArray, List.getElem_cons_succ, List.getElem_cons_zero, Act.put, List.setIfInBounds_toArray, List.set_cons_zero, List.set_cons_succ])
            refine wpAnyH_take (i := 10) (v := ?_) rfl (by kernel_rfl) (by kernel_rfl) (by kernel_rfl) (fun _ _ _ h => h) (Or.inl ⟨by rfl, ?_⟩) hHeld ?_
            rotate_left
            · ((intro w _; go_simp); try with_reducible rfl)
            (try simp only [List.getElem_toArray, List.getElem_cons_succ, List.getElem_cons_zero, Act.put, List.setIfInBounds_toArray, List.set_cons_zero, List.set_cons_succ])
            refine wpAnyH_take (i := 11) rfl (by kernel_rfl) (by kernel_rfl) (by kernel_rfl) (fun _ _ _ h => h) (yieldsIf_load_mid (by rfl) _ _ rfl _ _ rfl [.int .i64 x.k, .int .i64 x.n, .int .i64 x.p, .string x.a, .string x.b, .slice fa x.dat.length fc] _ (fun w h => h.2.2) Try.underlying31 rfl (by exact info_act)) hHeld ?_
            (try simp only [List.getElem_toArray, List.getElem_cons_succ, List.getElem_cons_zero, Act.put, List.setIfInBounds_toArray, List.set_cons_zero, List.set_cons_succ])
            refine wpAnyH_ready (rs := [12]) (by kernel_rfl) (by simp) (AllReadyH.cons rfl (fun KQ hKQ => ?_) AllReadyH.nil)
            go_simp
            refine (ST.out _ (brefl wr).drew).mono ?_
            rintro e w' ⟨rfl, s', hs', bt⟩
            have BD2 := Lib.hid (blk_keep (BDK.out.below (brefl wr).drew) (bt.tu.block bd BDK.out.1 (fun z => (Q.out.swap.2.2.1 bd z).2.2 (.inl rfl))) bt.tu.size)
            have BM2 := Lib.hid (blk_keep (BMK.out.below (brefl wr).drew) (bt.tu.block bm BMK.out.1 (fun z => (Q.out.swap.2.2.1 bm z).2.2 (.inr rfl))) bt.tu.size)
            have TW : Hid (Below w.heap.size w w') := Lib.hid ((HB.out.trans ((brefl wr).drew.mono HB.out.size)).trans (bt.tu.below (fun i hi => (Q.out.swap.2.2.1 i hi).2.1) HB.out.size))
            have hNext := (⟨(BD2.out.2 1 _ rfl).1, (BM2.out.2 1 _ rfl).1, range_tu hHeld.2.2 bt.tu HBB.out (fun z => by have := (Q.out.swap.2.2.1 b z).2.1; have := HBW.out; omega)⟩ : _ ∧ _ ∧ w'.rangeAt b (off + k * 6) [.int .i64 x.k, .int .i64 x.n, .int .i64 x.p, .string x.a, .string x.b, .slice fa x.dat.length fc])
            obtain ⟨X2, Y2, hq2⟩ := Qd.step (Q.out.swap.below (brefl wr).drew) bt HB.out.size (fun j hj => hj.elim (fun z => by rw [z]; exact BDK.out.1) (fun z => by rw [z]; exact BMK.out.1))
            have Q2 := Lib.hid hq2
            clear bt hq2
            go_wp2_with fail
            refine hKQ.out _ _ hNext (fun hH2 => ?_)
            clear hKQ KQ hHeld hNext
            have hHeld := hH2
            clear hH2
            (try simp only [List.getElem_toArray, List.getElem_cons_succ, List.getElem_cons_zero, Act.put, List.setIfInBounds_toArray, List.set_cons_zero, List.set_cons_succ])
            refine wpAnyH_take (i := 13) (v := ?_) rfl (by kernel_rfl) (by kernel_rfl) (by kernel_rfl) (fun _ _ _ h => h) (Or.inl ⟨by rfl, ?_⟩) hHeld ?_
            rotate_left
            · ((intro w _; go_simp); try with_reducible rfl)
            (try simp only [List.getElem_toArray, List.getElem_cons_succ, List.getElem_cons_zero, Act.put, List.setIfInBounds_toArray, List.set_cons_zero, List.set_cons_succ])
            refine wpAnyH_done (by kernel_rfl) ?_ _
            go_wp2_with fail
            exact ⟨⟨k + 1, s0, s', X0, Y0, X2, Y2, by omega, by omega, by go_num, Q2.out.swap, by omega, by omega, BD2.out, BM2.out, TW.out⟩, by simp [intOf]; omega⟩
      · have e2 : decide ((k : Int) < 500) = false := decide_eq_false (by omega)
        have W0 : Hid (∀ z, Below wr.heap.size wr z → Calls Try.prog 11 #[.pointer (some ⟨d0, 0, none⟩), .pointer (some ⟨m0, 0, none⟩)] z fun e w' => e = .returned (.bool true) ∧ Below z.heap.size z w') := Lib.hid (fun z qz => whole_c (Q.out.1.below qz) (by omega))
        have W1 : Hid (∀ z, Below wr.heap.size wr z → Calls Try.prog 11 #[.pointer (some ⟨d1, 0, none⟩), .pointer (some ⟨m1, 0, none⟩)] z fun e w' => e = .returned (.bool true) ∧ Below z.heap.size z w') := Lib.hid (fun z qz => whole_c (Q.out.2.1.below qz) (by omega))
        go_upto_region 13 with fail
        refine wp_region_held_drew (S := fun w' => Blk w' bd [.pointer (some ⟨d0, 0, none⟩), .pointer (some ⟨d1, 0, none⟩)] ∧ Blk w' bm [.pointer (some ⟨m0, 0, none⟩), .pointer (some ⟨m1, 0, none⟩)] ∧ Below wr.heap.size wr w') (by kernel_rfl) ⟨BDK.out.below (brefl wr).drew, BMK.out.below (brefl wr).drew, (brefl wr).drew⟩ (fun hHeld => ?_)
        refine wpAnyH_take (i := 0) (v := ?_) rfl (by kernel_rfl) (by kernel_rfl) (by kernel_rfl) (fun _ _ _ h => h) (Or.inl ⟨by rfl, ?_⟩) hHeld ?_
        rotate_left
        · ((intro w _; go_simp); try with_reducible rfl)
        (try simp only [List.getElem_toArray, List.getElem_cons_succ, List.getElem_cons_zero, Act.put, List.setIfInBounds_toArray, List.set_cons_zero, List.set_cons_succ])
        refine wpAnyH_take (i := 1) (v := ?_) rfl (by kernel_rfl) (by kernel_rfl) (by kernel_rfl) (fun _ _ _ h => h) (Or.inl ⟨by rfl, ?_⟩) hHeld ?_
        rotate_left
        · ((intro w _; go_simp); try with_reducible rfl)
        (try simp only [List.getElem_toArray, List.getElem_cons_succ, List.getElem_cons_zero, Act.put, List.setIfInBounds_toArray, List.set_cons_zero, List.set_cons_succ])
        refine wpAnyH_take (i := 2) (v := ?_) rfl (by kernel_rfl) (by kernel_rfl) (by kernel_rfl) (fun _ _ _ h => h) (Or.inl ⟨by rfl, ?_⟩) hHeld ?_
        rotate_left
        · (intro w hSw; have z1 := (hSw.1.2 0 _ rfl).1; go_simp; try with_reducible rfl)
        (try simp only [List.getElem_toArray, List.getElem_cons_succ, List.getElem_cons_zero, Act.put, List.setIfInBounds_toArray, List.set_cons_zero, List.set_cons_succ])
        refine wpAnyH_take (i := 3) (v := ?_) rfl (by kernel_rfl) (by kernel_rfl) (by kernel_rfl) (fun _ _ _ h => h) (Or.inl ⟨by rfl, ?_⟩) hHeld ?_
        rotate_left
        · ((intro w _; go_simp); try with_reducible rfl)
        (try simp only [List.getElem_toArray, List.getElem_cons_succ, List.getElem_cons_zero, Act.put, List.setIfInBounds_toArray, List.set_cons_zero, List.set_cons_succ])
        refine wpAnyH_take (i := 4) (v := ?_) rfl (by kernel_rfl) (by kernel_rfl) (by kernel_rfl) (fun _ _ _ h => h) (Or.inl ⟨by rfl, ?_⟩) hHeld ?_
        rotate_left
        · ((intro w _; go_simp); try with_reducible rfl)
        (try simp only [List.getElem_toArray, List.getElem_cons_succ, List.getElem_cons_zero, Act.put, List.setIfInBounds_toArray, List.set_cons_zero, List.set_cons_succ])
        refine wpAnyH_take (i := 5) (v := ?_) rfl (by kernel_rfl) (by kernel_rfl) (by kernel_rfl) (fun _ _ _ h => h) (Or.inl ⟨by rfl, ?_⟩) hHeld ?_
        rotate_left
        · (intro w hSw; have z1 := (hSw.2.1.2 0 _ rfl).1; go_simp; try with_reducible rfl)
        (try simp only [List.getElem_toArray, List.getElem_cons_succ, List.getElem_cons_zero, Act.put, List.setIfInBounds_toArray, List.set_cons_zero, List.set_cons_succ])
        refine wpAnyH_ready (rs := [6]) (by kernel_rfl) (by simp) (AllReadyH.cons rfl (fun KQ hKQ => ?_) AllReadyH.nil)
        go_simp
        refine (W0.out _ hHeld.2.2).mono ?_
        rintro e w' ⟨rfl, hb⟩
        have hNext := (⟨hHeld.1.below hb, hHeld.2.1.below hb, bstep hHeld.2.2 hb⟩ : _ ∧ _ ∧ Below wr.heap.size wr w')
        clear hb
        go_wp2_with fail
        refine hKQ.out _ _ hNext (fun hH2 => ?_)
        clear hKQ KQ hHeld hNext
        have hHeld := hH2
        clear hH2
        (try simp only [List.getElem_toArray, List.getElem_cons_succ, List.getElem_cons_zero, Act.put, List.setIfInBounds_toArray, List.set_cons_zero, List.set_cons_succ])
        refine wpAnyH_take (i := 7) (v := ?_) rfl (by kernel_rfl) (by kernel_rfl) (by kernel_rfl) (fun _ _ _ h => h) (Or.inl ⟨by rfl, ?_⟩) hHeld ?_
        rotate_left
        · ((intro w _; go_simp); try with_reducible rfl)
        (try simp only [List.getElem_toArray, List.getElem_cons_succ, List.getElem_cons_zero, Act.put, List.setIfInBounds_toArray, List.set_cons_zero, List.set_cons_succ])
        refine wpAnyH_take (i := 8) (v := ?_) rfl (by kernel_rfl) (by kernel_rfl) (by kernel_rfl) (fun _ _ _ h => h) (Or.inl ⟨by rfl, ?_⟩) hHeld ?_
        rotate_left
        · ((intro w _; go_simp); try with_reducible rfl)
        (try simp only [List.getElem_toArray, List.getElem_cons_succ, List.getElem_cons_zero, Act.put, List.setIfInBounds_toArray, List.set_cons_zero, List.set_cons_succ])
        refine wpAnyH_take (i := 9) (v := ?_) rfl (by kernel_rfl) (by kernel_rfl) (by kernel_rfl) (fun _ _ _ h => h) (Or.inl ⟨by rfl, ?_⟩) hHeld ?_
        rotate_left
        · ((intro w _; go_simp); try with_reducible rfl)
        (try simp only [List.getElem_toArray, List.getElem_cons_succ, List.getElem_cons_zero, Act.put, List.setIfInBounds_toArray, List.set_cons_zero, List.set_cons_succ])
        refine wpAnyH_take (i := 10) (v := ?_) rfl (by kernel_rfl) (by kernel_rfl) (by kernel_rfl) (fun _ _ _ h => h) (Or.inl ⟨by rfl, ?_⟩) hHeld ?_
        rotate_left
        · (intro w hSw; have z1 := (hSw.1.2 1 _ rfl).1; go_simp; try with_reducible rfl)
        (try simp only [List.getElem_toArray, List.getElem_cons_succ, List.getElem_cons_zero, Act.put, List.setIfInBounds_toArray, List.set_cons_zero, List.set_cons_succ])
        refine wpAnyH_take (i := 11) (v := ?_) rfl (by kernel_rfl) (by kernel_rfl) (by kernel_rfl) (fun _ _ _ h => h) (Or.inl ⟨by rfl, ?_⟩) hHeld ?_
        rotate_left
        · ((intro w _; go_simp); try with_reducible rfl)
        (try simp only [List.getElem_toArray, List.getElem_cons_succ, List.getElem_cons_zero, Act.put, List.setIfInBounds_toArray, List.set_cons_zero, List.set_cons_succ])
        refine wpAnyH_take (i := 12) (v := ?_) rfl (by kernel_rfl) (by kernel_rfl) (by kernel_rfl) (fun _ _ _ h => h) (Or.inl ⟨by rfl, ?_⟩) hHeld ?_
        rotate_left
        · ((intro w _; go_simp); try with_reducible rfl)
        (try simp only [List.getElem_toArray, List.getElem_cons_succ, List.getElem_cons_zero, Act.put, List.setIfInBounds_toArray, List.set_cons_zero, List.set_cons_succ])
        refine wpAnyH_take (i := 13) (v := ?_) rfl (by kernel_rfl) (by kernel_rfl) (by kernel_rfl) (fun _ _ _ h => h) (Or.inl ⟨by rfl, ?_⟩) hHeld ?_
        rotate_left
        · (intro w hSw; have z1 := (hSw.2.1.2 1 _ rfl).1; go_simp; try with_reducible rfl)
        (try simp only [List.getElem_toArray, List.getElem_cons_succ, List.getElem_cons_zero, Act.put, List.setIfInBounds_toArray, List.set_cons_zero, List.set_cons_succ])
        refine wpAnyH_ready (rs := [14]) (by kernel_rfl) (by simp) (AllReadyH.cons rfl (fun KQ hKQ => ?_) AllReadyH.nil)
        go_simp
        refine (W1.out _ hHeld.2.2).mono ?_
        rintro e w' ⟨rfl, hb⟩
        have hNext := (⟨hHeld.1.below hb, hHeld.2.1.below hb, bstep hHeld.2.2 hb⟩ : _ ∧ _ ∧ Below wr.heap.size wr w')
        clear hb
        go_wp2_with fail
        refine hKQ.out _ _ hNext (fun hH2 => ?_)
        clear hKQ KQ hHeld hNext
        have hHeld := hH2
        clear hH2
        (try simp only [List.getElem_toArray, List.getElem_cons_succ, List.getElem_cons_zero, Act.put, List.setIfInBounds_toArray, List.set_cons_zero, List.set_cons_succ])
        refine wpAnyH_take (i := 15) (v := ?_) rfl (by kernel_rfl) (by kernel_rfl) (by kernel_rfl) (fun _ _ _ h => h) (Or.inl ⟨by rfl, ?_⟩) hHeld ?_
        rotate_left
        · ((intro w _; go_simp); try with_reducible rfl)
        (try simp only [List.getElem_toArray, List.getElem_cons_succ, List.getElem_cons_zero, Act.put, List.setIfInBounds_toArray, List.set_cons_zero, List.set_cons_succ])
        refine wpAnyH_take (i := 16) (v := ?_) rfl (by kernel_rfl) (by kernel_rfl) (by kernel_rfl) (fun _ _ _ h => h) (Or.inl ⟨by rfl, ?_⟩) hHeld ?_
        rotate_left
        · ((intro w _; go_simp); try with_reducible rfl)
        (try simp only [List.getElem_toArray, List.getElem_cons_succ, List.getElem_cons_zero, Act.put, List.setIfInBounds_toArray, List.set_cons_zero, List.set_cons_succ])
        have FIN := hHeld.2.2
        refine wpAnyH_done (by kernel_rfl) ?_ _
        go_wp2_with fail
        go_ret
        exact ⟨rfl, HB.out.trans (FIN.mono HB.out.size)⟩
    · have e1 : decide ((k : Int) < (n : Int)) = false := decide_eq_false (by omega)
      have W0 : Hid (∀ z, Below wr.heap.size wr z → Calls Try.prog 11 #[.pointer (some ⟨d0, 0, none⟩), .pointer (some ⟨m0, 0, none⟩)] z fun e w' => e = .returned (.bool true) ∧ Below z.heap.size z w') := Lib.hid (fun z qz => whole_c (Q.out.1.below qz) (by omega))
      have W1 : Hid (∀ z, Below wr.heap.size wr z → Calls Try.prog 11 #[.pointer (some ⟨d1, 0, none⟩), .pointer (some ⟨m1, 0, none⟩)] z fun e w' => e = .returned (.bool true) ∧ Below z.heap.size z w') := Lib.hid (fun z qz => whole_c (Q.out.2.1.below qz) (by omega))
      go_upto_region 13 with fail
      refine wp_region_held_drew (S := fun w' => Blk w' bd [.pointer (some ⟨d0, 0, none⟩), .pointer (some ⟨d1, 0, none⟩)] ∧ Blk w' bm [.pointer (some ⟨m0, 0, none⟩), .pointer (some ⟨m1, 0, none⟩)] ∧ Below wr.heap.size wr w') (by kernel_rfl) ⟨BDK.out.below (brefl wr).drew, BMK.out.below (brefl wr).drew, (brefl wr).drew⟩ (fun hHeld => ?_)
      refine wpAnyH_take (i := 0) (v := ?_) rfl (by kernel_rfl) (by kernel_rfl) (by kernel_rfl) (fun _ _ _ h => h) (Or.inl ⟨by rfl, ?_⟩) hHeld ?_
      rotate_left
      · ((intro w _; go_simp); try with_reducible rfl)
      (try simp only [List.getElem_toArray, List.getElem_cons_succ, List.getElem_cons_zero, Act.put, List.setIfInBounds_toArray, List.set_cons_zero, List.set_cons_succ])
      refine wpAnyH_take (i := 1) (v := ?_) rfl (by kernel_rfl) (by kernel_rfl) (by kernel_rfl) (fun _ _ _ h => h) (Or.inl ⟨by rfl, ?_⟩) hHeld ?_
      rotate_left
      · ((intro w _; go_simp); try with_reducible rfl)
      (try simp only [List.getElem_toArray, List.getElem_cons_succ, List.getElem_cons_zero, Act.put, List.setIfInBounds_toArray, List.set_cons_zero, List.set_cons_succ])
      refine wpAnyH_take (i := 2) (v := ?_) rfl (by kernel_rfl) (by kernel_rfl) (by kernel_rfl) (fun _ _ _ h => h) (Or.inl ⟨by rfl, ?_⟩) hHeld ?_
      rotate_left
      · (intro w hSw; have z1 := (hSw.1.2 0 _ rfl).1; go_simp; try with_reducible rfl)
      (try simp only [List.getElem_toArray, List.getElem_cons_succ, List.getElem_cons_zero, Act.put, List.setIfInBounds_toArray, List.set_cons_zero, List.set_cons_succ])
      refine wpAnyH_take (i := 3) (v := ?_) rfl (by kernel_rfl) (by kernel_rfl) (by kernel_rfl) (fun _ _ _ h => h) (Or.inl ⟨by rfl, ?_⟩) hHeld ?_
      rotate_left
      · ((intro w _; go_simp); try with_reducible rfl)
      (try simp only [List.getElem_toArray, List.getElem_cons_succ, List.getElem_cons_zero, Act.put, List.setIfInBounds_toArray, List.set_cons_zero, List.set_cons_succ])
      refine wpAnyH_take (i := 4) (v := ?_) rfl (by kernel_rfl) (by kernel_rfl) (by kernel_rfl) (fun _ _ _ h => h) (Or.inl ⟨by rfl, ?_⟩) hHeld ?_
      rotate_left
      · ((intro w _; go_simp); try with_reducible rfl)
      (try simp only [List.getElem_toArray, List.getElem_cons_succ, List.getElem_cons_zero, Act.put, List.setIfInBounds_toArray, List.set_cons_zero, List.set_cons_succ])
      refine wpAnyH_take (i := 5) (v := ?_) rfl (by kernel_rfl) (by kernel_rfl) (by kernel_rfl) (fun _ _ _ h => h) (Or.inl ⟨by rfl, ?_⟩) hHeld ?_
      rotate_left
      · (intro w hSw; have z1 := (hSw.2.1.2 0 _ rfl).1; go_simp; try with_reducible rfl)
      (try simp only [List.getElem_toArray, List.getElem_cons_succ, List.getElem_cons_zero, Act.put, List.setIfInBounds_toArray, List.set_cons_zero, List.set_cons_succ])
      refine wpAnyH_ready (rs := [6]) (by kernel_rfl) (by simp) (AllReadyH.cons rfl (fun KQ hKQ => ?_) AllReadyH.nil)
      go_simp
      refine (W0.out _ hHeld.2.2).mono ?_
      rintro e w' ⟨rfl, hb⟩
      have hNext := (⟨hHeld.1.below hb, hHeld.2.1.below hb, bstep hHeld.2.2 hb⟩ : _ ∧ _ ∧ Below wr.heap.size wr w')
      clear hb
      go_wp2_with fail
      refine hKQ.out _ _ hNext (fun hH2 => ?_)
      clear hKQ KQ hHeld hNext
      have hHeld := hH2
      clear hH2
      (try simp only [List.getElem_toArray, List.getElem_cons_succ, List.getElem_cons_zero, Act.put, List.setIfInBounds_toArray, List.set_cons_zero, List.set_cons_succ])
      refine wpAnyH_take (i := 7) (v := ?_) rfl (by kernel_rfl) (by kernel_rfl) (by kernel_rfl) (fun _ _ _ h => h) (Or.inl ⟨by rfl, ?_⟩) hHeld ?_
      rotate_left
      · ((intro w _; go_simp); try with_reducible rfl)
      (try simp only [List.getElem_toArray, List.getElem_cons_succ, List.getElem_cons_zero, Act.put, List.setIfInBounds_toArray, List.set_cons_zero, List.set_cons_succ])
      refine wpAnyH_take (i := 8) (v := ?_) rfl (by kernel_rfl) (by kernel_rfl) (by kernel_rfl) (fun _ _ _ h => h) (Or.inl ⟨by rfl, ?_⟩) hHeld ?_
      rotate_left
      · ((intro w _; go_simp); try with_reducible rfl)
      (try simp only [List.getElem_toArray, List.getElem_cons_succ, List.getElem_cons_zero, Act.put, List.setIfInBounds_toArray, List.set_cons_zero, List.set_cons_succ])
      refine wpAnyH_take (i := 9) (v := ?_) rfl (by kernel_rfl) (by kernel_rfl) (by kernel_rfl) (fun _ _ _ h => h) (Or.inl ⟨by rfl, ?_⟩) hHeld ?_
      rotate_left
      · ((intro w _; go_simp); try with_reducible rfl)
      (try simp only [List.getElem_toArray, List.getElem_cons_succ, List.getElem_cons_zero, Act.put, List.setIfInBounds_toArray, List.set_cons_zero, List.set_cons_succ])
      refine wpAnyH_take (i := 10) (v := ?_) rfl (by kernel_rfl) (by kernel_rfl) (by kernel_rfl) (fun _ _ _ h => h) (Or.inl ⟨by rfl, ?_⟩) hHeld ?_
      rotate_left
      · (intro w hSw; have z1 := (hSw.1.2 1 _ rfl).1; go_simp; try with_reducible rfl)
      (try simp only [List.getElem_toArray, List.getElem_cons_succ, List.getElem_cons_zero, Act.put, List.setIfInBounds_toArray, List.set_cons_zero, List.set_cons_succ])
      refine wpAnyH_take (i := 11) (v := ?_) rfl (by kernel_rfl) (by kernel_rfl) (by kernel_rfl) (fun _ _ _ h => h) (Or.inl ⟨by rfl, ?_⟩) hHeld ?_
      rotate_left
      · ((intro w _; go_simp); try with_reducible rfl)
      (try simp only [List.getElem_toArray, List.getElem_cons_succ, List.getElem_cons_zero, Act.put, List.setIfInBounds_toArray, List.set_cons_zero, List.set_cons_succ])
      refine wpAnyH_take (i := 12) (v := ?_) rfl (by kernel_rfl) (by kernel_rfl) (by kernel_rfl) (fun _ _ _ h => h) (Or.inl ⟨by rfl, ?_⟩) hHeld ?_
      rotate_left
      · ((intro w _; go_simp); try with_reducible rfl)
      (try simp only [List.getElem_toArray, List.getElem_cons_succ, List.getElem_cons_zero, Act.put, List.setIfInBounds_toArray, List.set_cons_zero, List.set_cons_succ])
      refine wpAnyH_take (i := 13) (v := ?_) rfl (by kernel_rfl) (by kernel_rfl) (by kernel_rfl) (fun _ _ _ h => h) (Or.inl ⟨by rfl, ?_⟩) hHeld ?_
      rotate_left
      · (intro w hSw; have z1 := (hSw.2.1.2 1 _ rfl).1; go_simp; try with_reducible rfl)
      (try simp only [List.getElem_toArray, List.getElem_cons_succ, List.getElem_cons_zero, Act.put, List.setIfInBounds_toArray, List.set_cons_zero, List.set_cons_succ])
      refine wpAnyH_ready (rs := [14]) (by kernel_rfl) (by simp) (AllReadyH.cons rfl (fun KQ hKQ => ?_) AllReadyH.nil)
      go_simp
      refine (W1.out _ hHeld.2.2).mono ?_
      rintro e w' ⟨rfl, hb⟩
      have hNext := (⟨hHeld.1.below hb, hHeld.2.1.below hb, bstep hHeld.2.2 hb⟩ : _ ∧ _ ∧ Below wr.heap.size wr w')
      clear hb
      go_wp2_with fail
      refine hKQ.out _ _ hNext (fun hH2 => ?_)
      clear hKQ KQ hHeld hNext
      have hHeld := hH2
      clear hH2
      (try simp only [List.getElem_toArray, List.getElem_cons_succ, List.getElem_cons_zero, Act.put, List.setIfInBounds_toArray, List.set_cons_zero, List.set_cons_succ])
      refine wpAnyH_take (i := 15) (v := ?_) rfl (by kernel_rfl) (by kernel_rfl) (by kernel_rfl) (fun _ _ _ h => h) (Or.inl ⟨by rfl, ?_⟩) hHeld ?_
      rotate_left
      · ((intro w _; go_simp); try with_reducible rfl)
      (try simp only [List.getElem_toArray, List.getElem_cons_succ, List.getElem_cons_zero, Act.put, List.setIfInBounds_toArray, List.set_cons_zero, List.set_cons_succ])
      refine wpAnyH_take (i := 16) (v := ?_) rfl (by kernel_rfl) (by kernel_rfl) (by kernel_rfl) (fun _ _ _ h => h) (Or.inl ⟨by rfl, ?_⟩) hHeld ?_
      rotate_left
      · ((intro w _; go_simp); try with_reducible rfl)
      (try simp only [List.getElem_toArray, List.getElem_cons_succ, List.getElem_cons_zero, Act.put, List.setIfInBounds_toArray, List.set_cons_zero, List.set_cons_succ])
      have FIN := hHeld.2.2
      refine wpAnyH_done (by kernel_rfl) ?_ _
      go_wp2_with fail
      go_ret
      exact ⟨rfl, HB.out.trans (FIN.mono HB.out.size)⟩
set_option maxRecDepth 100000 in
theorem lifted (os : Os) (started : os.Started) (H : Type) (enc : TypeId × Value → H) :
    ReturnsInHanded {} Try.checked os 4 .any (Rows.diskApartSpec.pre6 enc Try.prog Try.f4 Rows.diskApartRow.domain false) (Rows.diskApartSpec.post enc Try.prog Try.f4 false true false false) := by
  refine returnsInHanded_of_change_sized (C := Try.checked) own started (by kernel_rfl) Try.func4
    (ChangeSpec.witness6 (enc := enc) (C := Try.checked) false ⟨#[], #[.slice none 0 0, .slice none 0 0], []⟩ 8 (by kernel_rfl) (by kernel_rfl) (by kernel_rfl) (by kernel_rfl)) ?_
  intro W base args ds gs before hval0 hW hcnd hsz0 _
  have hsz : (DataW.weightsEach Try.prog (Try.f4.params.toList ++ Rows.diskApartSpec.plain.varTypes Try.prog) (ds ++ gs)).all (· ≤ reachBytes) = true := hsz0
  have hval : ∀ (j : Nat) t v, Try.f4.params[j]? = some t → args[j]? = some v → Value.okWide Try.prog W .any base t v := hval0
  have hW' := hW
  obtain ⟨p, q, hA0, hV, rfl, hfz, hnd⟩ := hW
  have hA : DataW.TrodAll enc Try.prog W 0 (fun _ => true) true Try.f4.params.toList args.toList ds p := hA0
  rw [Try.params4] at hA hval hsz
  obtain ⟨v0, vs0, d0, ds0, p0, q0, hargs, rfl, rfl, h0, r0⟩ := trodAll_cons hA
  obtain ⟨v1, vs1, d1, ds1, p1, q1, rfl, rfl, rfl, h1, r1⟩ := trodAll_cons r0
  obtain ⟨rfl, rfl, rfl⟩ := trodAll_nil r1
  obtain rfl : args = #[v0, v1] := by cases args; simp_all
  obtain ⟨rfl, rfl⟩ := trodVars_none hV
  have h0k := h0
  have hlt0 : ∀ x ∈ p0, x.block < W.heap.size := fun x hx => by have := hW'.lt x (by simp [hx]); simpa using this
  have hb0 : ∀ y ∈ DataW.weights Try.prog 22 d0, y ≤ reachBytes := fun y hy => by
    have := List.all_eq_true.1 hsz y (DataW.weights_mem_each (j := 0) rfl rfl y hy)
    simpa using this
  have h1k := h1
  have hlt1 : ∀ x ∈ p1, x.block < W.heap.size := fun x hx => by have := hW'.lt x (by simp [hx]); simpa using this
  have hb1 : ∀ y ∈ DataW.weights Try.prog 37 d1, y ≤ reachBytes := fun y hy => by
    have := List.all_eq_true.1 hsz y (DataW.weights_mem_each (j := 1) rfl rfl y hy)
    simpa using this
  obtain ⟨L0, g0⟩ := open_acts (hval 0 22 v0 rfl rfl) h0 hb0
  obtain ⟨L1, g1⟩ := open_bools (hval 1 37 v1 rfl rfl) h1 hb1
  clear hA0 hval0
  simp only [List.append_nil] at hW'
  refine (walk v0 L0 v1 L1 W g0 g1).mono fun e W' ⟨he, hg⟩ => ?_
  subst he
  exact ⟨_, rfl, _, _, _, [], _, [], hW', trodAll_cons_mk (shut_bool Try.underlying4 _) trodAll_mk0,
    (trodAll_cons_mk (Below.trod laidOut (by kernel_rfl) (of_decide_eq_true (by kernel_rfl)) h0k hg hlt0) (trodAll_cons_mk (Below.trod laidOut (by kernel_rfl) (of_decide_eq_true (by kernel_rfl)) h1k hg hlt1) trodAll_mk0)), rfl, hg.frame _, fun h => nomatch h⟩

theorem over : Rows.diskApartRow.holds Try.pinned (OpenSpec.ofChange Rows.diskApartSpec) :=
  OpenClaim.holds_of_wide 4 Try.f4 rfl rfl rfl rfl rfl rfl rfl ⟨rfl, rfl, rfl, rfl, rfl⟩ rfl rfl rfl rfl rfl (by kernel_rfl) Try.func4 (by kernel_rfl)
    (of_decide_eq_true (by kernel_rfl)) (by unfold Func.isWrapper; first | (rw [if_pos (by decide +kernel)]; kernel_rfl) | (rw [if_neg (by decide +kernel)]; exact ⟨rfl, rfl⟩))
    (fun os started H enc _ => lifted os started H enc)

theorem proved : Rows.DiskApartSaid :=
  over
end Go.Proofs.Ytpnphmfpandmkaa.diskApart
