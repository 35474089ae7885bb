/-
  The program's guard: a host is brought to the front of its table.
  Conditions: none but that the guard lies in memory.
-/
import Derived.Test.YtdngoopogajhiaaGuK
import Derived.Deep.RegionLaw
namespace Go.Proofs.Ytdngoopogajhiaa.Gu
open Go.RowKit Go.ChangeShapes Go.WideShapes Go.ChangeAt Go.Joins Fl
set_option linter.unusedVariables false
set_option linter.unusedSimpArgs false

/-- copy over cells of one block, of elements of whatever size. -/
theorem run_copy_cells {P : Program} (w : World) (t ty e : TypeId) (i : TypeInfo) (hu : P.underlying t = some (.slice e)) (hi : P.info? e = some i) (b off n c : Nat) (ad : Addr) (m c' : Nat) (cs : List Value) (hn : cs.length = Nat.min m n * i.size)
    (hsrc : ∀ j u, cs[j]? = some u → w.cell? (ad.add j) = some u) (ht : w.there b off cs.length) (h1 : ∀ u ∈ cs, u.oneCell' = true) :
    (Builtin.copy_ #[t, t] ty #[.slice (some ⟨b, off, none⟩) n c, .slice (some ad) m c']).run P w = .ok (goInt (Nat.min m n)) (w.setCells b off cs) := by
  have hf := run_firstCells_some (P := P) w i.size (Nat.min m n) ad m c' cs hn hsrc
  have hst := run_storeCells_cells (P := P) b off cs 0 w (fun j hj => by simpa using (ht j hj).1) (fun j hj => by simpa using (ht j hj).2) h1
  rw [Nat.add_zero] at hst
  simp [Builtin.copy_, run_underlying hu, sizeOf, typeInfo, hi, Builtin.lenOf, hf, hst]
theorem step_copy_cells {P : Program} {ops : Array Oper} {o : Oper} {a : Act} {w : World} {K : Act → World → Prop} {Q : Exit → Act → World → Prop} {E : Prop} (hgd : o.guard = none) (d s : Operand) (t : TypeId)
    (ho : o.op = .call { callee := .builtin .copy, args := #[d, s], argTypes := #[t, t] }) (e : TypeId) (hu : P.underlying t = some (.slice e)) (size : Nat) (hi : (P.info? e).map (·.size) = some size)
    (b off n c : Nat) (hd : a.eval d = .slice (some ⟨b, off, none⟩) n c) (ad : Addr) (m c' : Nat) (hs : a.eval s = .slice (some ad) m c') (cs : List Value) (hn : cs.length = Nat.min m n * size)
    (hsrc : ∀ j u, cs[j]? = some u → w.cell? (ad.add j) = some u) (ht : w.there b off cs.length) (h1 : ∀ u ∈ cs, u.oneCell' = true)
    (h : K (a.put o.dst (goInt (Nat.min m n))) (w.setCells b off cs)) :
    if Region.wanted o (yielded ops a.tmps) = true then Oper.wp P o a w K Q else E := by
  have hw : Region.wanted o (yielded ops a.tmps) = true := by simp [Region.wanted, hgd]
  rw [if_pos hw]
  cases hq : P.info? e with
  | none => simp [hq] at hi
  | some i =>
    simp [hq] at hi
    subst hi
    have hrun := run_copy_cells (P := P) w t o.type e i hu hq b off n c ad m c' cs hn hsrc ht h1
    unfold Oper.wp
    simp [execOp, ho, resolve, invoke, builtin, hd, hs, hrun, Result.andThen]
    exact h

/-- cells stored in the midst of a block. -/
theorem blk_mid {w : World} {b : Nat} {V : List Value} (h : Blk w b V) (o : Nat) (cs : List Value) (ho : o + cs.length ≤ V.length) : Blk (w.setCells b o cs) b (V.take o ++ (cs ++ V.drop (o + cs.length))) := by
  have hin : ∀ j, j < cs.length → (w.cell? ⟨b, o + j, none⟩).isSome = true := fun j hj => by
    rw [(h.2 (o + j) _ (List.getElem?_eq_getElem (by omega))).1]; rfl
  have hs : ∀ (vs : List Value) (o : Nat) (w : World), (w.setCells b o vs).heap.size = w.heap.size := size_over b
  refine ⟨by rw [hs]; exact h.1, fun i x hx => ?_⟩
  have ltk : (V.take o).length = o := by rw [List.length_take]; omega
  rw [World.frozen?_setCells]
  by_cases c1 : i < o
  · rw [List.getElem?_append_left (by omega), List.getElem?_take_of_lt c1] at hx
    rw [World.cell?_setCells_out b cs o w ⟨b, i, none⟩ (fun _ _ => Or.inl c1)]
    exact h.2 i x hx
  · rw [List.getElem?_append_right (by omega), ltk] at hx
    by_cases c2 : i - o < cs.length
    · rw [List.getElem?_append_left c2] at hx
      have e := World.cell?_setCells_in b cs o w hin (i - o) c2
      rw [show o + (i - o) = i by omega] at e
      rw [e]
      refine ⟨by rw [← hx, List.getElem?_eq_getElem c2], (h.2 i _ (List.getElem?_eq_getElem (by omega))).2⟩
    · rw [List.getElem?_append_right (by omega), List.getElem?_drop] at hx
      rw [show o + cs.length + (i - o - cs.length) = i by omega] at hx
      rw [World.cell?_setCells_out b cs o w ⟨b, i, none⟩ (fun _ _ => Or.inr (by show o + cs.length ≤ i; omega))]
      exact h.2 i x hx

theorem info_ps4 : (Try.prog.info? 55).map (·.size) = some 4 := by kernel_rfl
theorem blk4 {w : World} {b : Nat} {x y z u : Value} (h : Blk w b [x, y, z, u]) {w' : World} (q : Below w.heap.size w w') : w'.cell? ⟨b, 0, none⟩ = some x ∧ w'.cell? ⟨b, 1, none⟩ = some y ∧ w'.cell? ⟨b, 2, none⟩ = some z ∧ w'.cell? ⟨b, 3, none⟩ = some u :=
  ⟨((h.below q).2 0 _ rfl).1, ((h.below q).2 1 _ rfl).1, ((h.below q).2 2 _ rfl).1, ((h.below q).2 3 _ rfl).1⟩
theorem PM.lt {w : World} {b : Nat} {Z : Nat → Prop} {R : List Ru} {H : List Ho} (h : PM w b Z R H) : b < w.heap.size := by
  obtain ⟨V, rv, _, _, h3, _⟩ := h
  exact h3.1
/-- what bringing to the front leaves. -/
def BfP (w : World) (b : Nat) (Z : Nat → Prop) (R : List Ru) (H : List Ho) (a raw : Int) : Prop := ∃ h T, (h ∈ H ∨ h = ⟨a, raw, 0, 0⟩) ∧ Bf a raw H h T ∧ PM w b Z R (h :: T)
/-- the cells behind the move. -/
def mvV (V : List Value) (p : Nat) (h : Ho) : List Value := ((((V.take 5 ++ ((V.drop 1).take (p * 4) ++ V.drop (5 + p * 4))).set 1 (.int .u32 h.addr)).set 2 (.int .i64 h.last)).set 3 (.int .i64 h.count)).set 4 (.int .i64 h.score)
theorem mid_len {V : List Value} {p : Nat} (hl : V.length = 66) (hp : p ≤ 15) : (V.take 5 ++ ((V.drop 1).take (p * 4) ++ V.drop (5 + p * 4))).length = 66 := by
  rw [List.length_append, List.length_append, List.length_take, List.length_take, List.length_drop, List.length_drop]
  omega
theorem mid_at {V : List Value} {p : Nat} (hl : V.length = 66) (hp : p ≤ 15) (i : Nat) : (V.take 5 ++ ((V.drop 1).take (p * 4) ++ V.drop (5 + p * 4)))[i]? = if i < 5 then V[i]? else if i < 5 + p * 4 then V[i - 4]? else V[i]? := by
  have l5 : (V.take 5).length = 5 := by rw [List.length_take]; omega
  have lm : ((V.drop 1).take (p * 4)).length = p * 4 := by rw [List.length_take, List.length_drop]; omega
  by_cases c : i < 5
  · rw [if_pos c, List.getElem?_append_left (by omega), List.getElem?_take_of_lt c]
  · rw [if_neg c, List.getElem?_append_right (by omega), l5]
    by_cases d : i < 5 + p * 4
    · rw [if_pos d, List.getElem?_append_left (by omega), List.getElem?_take_of_lt (by omega), List.getElem?_drop]
      congr 1
      omega
    · rw [if_neg d, List.getElem?_append_right (by omega), lm, List.getElem?_drop]
      congr 1
      omega
theorem mvV_len {V : List Value} {p : Nat} (hl : V.length = 66) (hp : p ≤ 15) (h : Ho) : (mvV V p h).length = 66 := by
  unfold mvV
  rw [List.length_set, List.length_set, List.length_set, List.length_set]
  exact mid_len hl hp
theorem mvV_out {V : List Value} {p : Nat} (hl : V.length = 66) (hp : p ≤ 15) (h : Ho) {i : Nat} (hi : i = 0 ∨ 5 ≤ i) : (mvV V p h)[i]? = if i < 5 then V[i]? else if i < 5 + p * 4 then V[i - 4]? else V[i]? := by
  unfold mvV
  rw [List.getElem?_set_ne (by omega), List.getElem?_set_ne (by omega), List.getElem?_set_ne (by omega), List.getElem?_set_ne (by omega)]
  exact mid_at hl hp i
theorem mvV_in {V : List Value} {p : Nat} (hl : V.length = 66) (hp : p ≤ 15) (h : Ho) {i : Nat} {v : Value} (hi : (hvs h)[i]? = some v) : (mvV V p h)[1 + i]? = some v := by
  have ml := mid_len hl hp
  unfold mvV
  generalize V.take 5 ++ ((V.drop 1).take (p * 4) ++ V.drop (5 + p * 4)) = A at ml ⊢
  match i, hi with
  | 0, hi => (simp [hvs] at hi; subst hi; simp [List.getElem?_set, ml])
  | 1, hi => (simp [hvs] at hi; subst hi; simp [List.getElem?_set, ml])
  | 2, hi => (simp [hvs] at hi; subst hi; simp [List.getElem?_set, ml])
  | 3, hi => (simp [hvs] at hi; subst hi; simp [List.getElem?_set, ml])
  | i + 4, hi => simp [hvs] at hi
theorem tb_move {V : List Value} {H : List Ho} (hT : Tb V H) {p : Nat} (hp : p ≤ H.length) (hl : V.length = 66) (hp2 : p ≤ 15) (h : Ho) : Tb (mvV V p h) (h :: mv p H) := by
  intro j s hj i v hi
  have i4 : i < 4 := by have := (List.getElem?_eq_some_iff.1 hi).1; simpa [hvs] using this
  cases j with
  | zero =>
    simp at hj
    subst hj
    rw [Nat.zero_mul, Nat.zero_add]
    exact mvV_in hl hp2 h hi
  | succ j =>
    rw [List.getElem?_cons_succ, mv_at p H hp j] at hj
    rw [mvV_out hl hp2 h (.inr (by omega)), if_neg (by omega)]
    by_cases c : j < p
    · rw [if_pos c] at hj
      rw [if_pos (by omega), show 1 + ((j + 1) * 4 + i) - 4 = 1 + (j * 4 + i) by omega]
      exact hT j s hj i v hi
    · rw [if_neg c] at hj
      rw [if_neg (by omega)]
      exact hT (j + 1) s hj i v hi
theorem mvV_one {V : List Value} (hv : ∀ v ∈ V, v.oneCell' = true) (p : Nat) (h : Ho) : ∀ v ∈ mvV V p h, v.oneCell' = true := by
  have A1 : ∀ v ∈ V.take 5 ++ ((V.drop 1).take (p * 4) ++ V.drop (5 + p * 4)), v.oneCell' = true := by
    intro v m
    rcases List.mem_append.1 m with m | m
    · exact hv v (List.mem_of_mem_take m)
    · rcases List.mem_append.1 m with m | m
      · exact hv v (List.mem_of_mem_drop (List.mem_of_mem_take m))
      · exact hv v (List.mem_of_mem_drop m)
  intro v m
  unfold mvV at m
  rcases List.mem_or_eq_of_mem_set m with m | m
  · rcases List.mem_or_eq_of_mem_set m with m | m
    · rcases List.mem_or_eq_of_mem_set m with m | m
      · rcases List.mem_or_eq_of_mem_set m with m | m
        · exact A1 v m
        · rw [m]; rfl
      · rw [m]; rfl
    · rw [m]; rfl
  · rw [m]; rfl
set_option maxRecDepth 100000 in
theorem predS_c (h : Ho) (x : Int) (B : Nat) (w : World) (hB : B < w.heap.size) (hc : w.cell? ⟨B, 0, none⟩ = some (.int .u32 x)) :
    Calls Try.prog 33 #[.agg #[.int .u32 h.addr, .int .i64 h.last, .int .i64 h.count, .int .i64 h.score], .pointer (some ⟨B, 0, none⟩)] w fun e w' => e = .returned (.bool (h.addr == x)) ∧ Below w.heap.size w w' := by
  obtain ⟨ad, la, co, sc⟩ := h
  have hne : B ≠ w.heap.size := by omega
  have BB := Lib.hid (balloc (brefl w) (.cells #[.int .u32 ad, .int .i64 la, .int .i64 co, .int .i64 sc] 55))
  go_enter Try.func33, Try.ntmps33
  go_wp2_with fail
  go_ret
  exact ⟨rfl, BB.out⟩
set_option maxRecDepth 100000 in
set_option maxHeartbeats 4000000 in
theorem indexS_c {w : World} {v : Value} {H : List Ho} (h : Gn.Ss hvs 4 w v H) (x : Int) (B : Nat) (hB : B < w.heap.size) (hc : w.cell? ⟨B, 0, none⟩ = some (.int .u32 x)) : Calls Try.prog 32 #[v, .func (.func 33) #[] #[.pointer (some ⟨B, 0, none⟩)]] w fun e w' => (∃ z : Int, e = .returned (.int .i64 z) ∧ Fx x H z) ∧ Below w.heap.size w w' := by
  have HS := Lib.hid h
  have HC := Lib.hid hc
  obtain ⟨ra, rc, rfl, c1, c2, _⟩ := h
  obtain ⟨m, hm⟩ : ∃ m, H.length = m := ⟨_, rfl⟩
  have HM := Lib.hid hm
  rw [hm] at HS c1 ⊢
  have m0 : (0 : Int) ≤ (m : Int) := by omega
  have m2 : (m : Int) ≤ (rc : Int) := by omega
  have m3 : (rc : Int) ≤ 9223372036854775807 := by omega
  clear hm hc
  go_enter Try.func32, Try.ntmps32
  go_wp2_with fail
  go_loopw [5, 8] (fun _ i wr => ∃ k : Nat, k ≤ m ∧ i = .int .i64 k ∧ (∀ j y, j < k → H[j]? = some y → y.addr ≠ x) ∧ Below w.heap.size w wr) (fun _ i _ => m - (intOf i).toNat)
  case atStart => exact ⟨0, Nat.zero_le _, rfl, fun j _ hj => absurd hj (Nat.not_lt_zero _), brefl w⟩
  case round =>
    obtain ⟨k, hk, rfl, hno, hb⟩ := hrel
    rename World => wr
    have NO := Lib.hid hno
    have BB := Lib.hid hb
    clear hno hb
    by_cases c : k < m
    · have e0 : decide ((k : Int) < (m : Int)) = true := decide_eq_true (by omega)
      have k0 : (0 : Int) ≤ (k : Int) := by omega
      have k1 : (k : Int) < (m : Int) := by omega
      have wk : IntKind.i64.wrap ((k : Int) + 1) = (k : Int) + 1 := wrap_in (by omega) (by omega)
      obtain ⟨y, hy⟩ : ∃ y, H[k]? = some y := ⟨_, List.getElem?_eq_getElem (by rw [HM.out]; exact c)⟩
      have HY := Lib.hid hy
      have PR := Lib.hid (predS_c y x B wr (Nat.lt_of_lt_of_le hB BB.out.size) ((BB.out.cell (p := ⟨B, 0, none⟩) hB).trans HC.out))
      obtain ⟨bb, off, rfl, hbb, hR⟩ := (HS.out.below BB.out).at hy
      have y0 := hR 0 _ rfl
      have y1 := hR 1 _ rfl
      have y2 := hR 2 _ rfl
      have y3 := hR 3 _ rfl
      rw [Nat.add_zero] at y0
      clear hR hy
      obtain ⟨ya, yl, yc, ys⟩ := y
      simp only at y0 y1 y2 y3 PR
      by_cases hx : ya = x
      · have ex : (ya == x) = true := by simpa using hx
        rw [ex] at PR
        have HX := Lib.hid hx
        clear hx ex
        go_wp2_with fail
        refine PR.out.mono ?_
        rintro e w3 ⟨rfl, hb⟩
        have B3 := Lib.hid (bstep BB.out hb)
        clear hb PR y0 y1 y2 y3
        go_wp2_with fail
        go_ret
        exact ⟨⟨_, rfl, .inl ⟨k, _, rfl, HY.out, HX.out⟩⟩, B3.out⟩
      · have ex : (ya == x) = false := by simpa using hx
        rw [ex] at PR
        have YE : Hid (∀ j y, j < k + 1 → H[j]? = some y → y.addr ≠ x) := Lib.hid fun j y hj hy => by
          rcases Nat.lt_succ_iff_lt_or_eq.1 hj with z | rfl
          · exact NO.out j y z hy
          · rw [HY.out] at hy
            cases hy
            exact hx
        go_wp2_with fail
        refine PR.out.mono ?_
        rintro e w3 ⟨rfl, hb⟩
        have B3 := Lib.hid (bstep BB.out hb)
        clear hb PR y0 y1 y2 y3
        go_wp2_with fail
        go_roundw
        case rel => exact ⟨k + 1, by omega, by go_num, YE.out, B3.out⟩
        case measure => simp [intOf]; omega
    · have e0 : decide ((k : Int) < (m : Int)) = false := decide_eq_false (by omega)
      obtain rfl : k = m := by omega
      have AL : Hid (∀ y ∈ H, y.addr ≠ x) := Lib.hid fun y hy => by
        obtain ⟨j, hj⟩ := List.mem_iff_getElem?.1 hy
        exact NO.out j y (by rw [← HM.out]; exact (List.getElem?_eq_some_iff.1 hj).1) hj
      go_wp2_with fail
      go_ret
      exact ⟨⟨_, rfl, .inr ⟨rfl, AL.out⟩⟩, BB.out⟩
set_option maxRecDepth 100000 in
set_option maxHeartbeats 16000000 in
theorem bringToFront_c {w : World} {b : Nat} {Z : Nat → Prop} {R : List Ru} {H : List Ho} (h : PM w b Z R H) (hn : (H.map Ho.addr).Nodup) (a raw : Int) : Calls Try.prog 29 #[.pointer (some ⟨b, 0, none⟩), .int .u32 a, .int .i64 raw] w fun e w' => e = .returned (.pointer (some ⟨b, 1, none⟩)) ∧ BfP w' b Z R H a raw ∧ Tu (Td b) w w' := by
  have HP := Lib.hid h
  have HL : Hid (H.length ≤ 16) := Lib.hid h.count.2.2
  have bw : b < w.heap.size := h.lt
  have B0 := Lib.hid (balloc (brefl w) (.cells #[.int .u32 a] 34))
  have N0 := Lib.hid (Blk.new' w #[.int .u32 a] 34)
  have HC := Lib.hid (fun W (q : Below w.heap.size w W) => hosts_c (h.below q))
  have XI := Lib.hid (fun W (q : Below w.heap.size w W) (h1 : w.heap.size < W.heap.size) (h2 : W.cell? ⟨w.heap.size, 0, none⟩ = some (.int .u32 a)) => indexS_c (h.below q).ss a w.heap.size h1 h2)
  have HN := Lib.hid hn
  clear h hn
  go_enter Try.func29, Try.ntmps29
  go_wp2_with fail
  refine (HC.out _ B0.out).mono ?_
  rintro e w1 ⟨rfl, hb⟩
  have B1 := Lib.hid (bstep B0.out hb)
  have N1 := Lib.hid (N0.out.below hb)
  clear hb N0 B0 HC
  go_wp2_with fail
  refine (XI.out _ B1.out N1.out.1 (N1.out.2 0 _ rfl).1).mono ?_
  rintro e w2 ⟨⟨z, rfl, hz⟩, hb⟩
  have B2 := Lib.hid (bstep B1.out hb)
  have N2 := Lib.hid (N1.out.below hb)
  clear hb N1 B1 XI
  have zw : w.heap.size < w2.heap.size := N2.out.1
  have zb : b < w2.heap.size := by omega
  have zn : b ≠ w2.heap.size := by omega
  have n0 := (N2.out.2 0 _ rfl).1
  have N3 := Lib.hid (Blk.new' w2 #[.int .u32 a, .int .i64 raw, .int .i64 0, .int .i64 0] 55)
  have B3 := Lib.hid (balloc B2.out (.cells #[.int .u32 a, .int .i64 raw, .int .i64 0, .int .i64 0] 55))
  go_upto_region 3 with fail
  have S3 : Hid ((w2.alloc (.cells #[.int .u32 a, .int .i64 raw, .int .i64 0, .int .i64 0] 55)).heap.size = w2.heap.size + 1) := Lib.hid (by simp)
  obtain ⟨hb', hhb⟩ : ∃ x, w2.heap.size = x := ⟨_, rfl⟩
  generalize w2.alloc (.cells #[.int .u32 a, .int .i64 raw, .int .i64 0, .int .i64 0] 55) = w3 at *
  obtain ⟨V, rv, v1, v2, v3, v4, v5, v6, v7, v8, v9, v10, v11⟩ := HP.out
  have L3 := Lib.hid v1
  have O3 := Lib.hid v2
  have V3 := Lib.hid (v3.below B3.out)
  have R3 := Lib.hid v4
  have C3 := Lib.hid v5
  have T3 := Lib.hid v7
  have RS := Lib.hid v8
  have Z3 := Lib.hid (And.intro v9 v10)
  have ZL := Lib.hid v11
  clear v1 v2 v3 v4 v5 v6 v7 v8 v9 v10 v11 n0 N2 HP
  rw [hhb] at N3 zb zn zw S3 ⊢
  have hbw : w.heap.size ≤ hb' := by omega
  have hb3 : hb' < w3.heap.size := by rw [S3.out]; omega
  clear hhb S3
  rcases hz with ⟨p, x, rfl, hp, hx⟩ | ⟨rfl, hno⟩
  · have p15 : p ≤ 15 := by have := (List.getElem?_eq_some_iff.1 hp).1; have := HL.out; omega
    have pH : Hid (p ≤ H.length) := Lib.hid (by have := (List.getElem?_eq_some_iff.1 hp).1; omega)
    have BF := Lib.hid (bf_old (raw := raw) HN.out HL.out hp hx)
    have XM : Hid (x ∈ H ∨ x = ⟨a, raw, 0, 0⟩) := Lib.hid (.inl (List.mem_of_getElem? hp))
    have CN : Hid (V[65]? = some (.int .i64 ((x :: mv p H).length : Nat))) := Lib.hid (by
      have l : (x :: mv p H).length = H.length := by
        have := (List.getElem?_eq_some_iff.1 hp).1
        unfold mv
        rw [List.length_cons, List.length_append, List.length_take, List.length_drop]
        omega
      rw [l]
      exact C3.out)
    have p0 : (0 : Int) ≤ (p : Int) := by omega
    have p1 : (p : Int) < 16 := by omega
    have dp : decide (0 ≤ (p : Int)) = true := decide_eq_true p0
    have YY : ∀ i v, (hvs x)[i]? = some v → w3.cell? ⟨b, 1 + p * 4 + i, none⟩ = some v := fun i v hi => by
      have := (V3.out.2 _ _ (T3.out p x hp i v hi)).1
      rwa [Nat.add_assoc]
    have y0 := YY 0 _ rfl
    have y1 := YY 1 _ rfl
    have y2 := YY 2 _ rfl
    have y3 := YY 3 _ rfl
    rw [Nat.add_zero] at y0
    clear YY hp hx C3
    obtain ⟨s0, t0⟩ := N3.out.2 0 _ rfl
    obtain ⟨s1, t1⟩ := N3.out.2 1 _ rfl
    obtain ⟨s2, t2⟩ := N3.out.2 2 _ rfl
    obtain ⟨s3, t3⟩ := N3.out.2 3 _ rfl
    obtain ⟨xa, xl, xc, xs⟩ := x
    simp only at y0 y1 y2 y3
    go_upto_region 7 with fail
    have N4 : Hid (Blk ((((w3.setCell ⟨hb', 0, none⟩ (.int .u32 xa)).setCell ⟨hb', 1, none⟩ (.int .i64 xl)).setCell ⟨hb', 2, none⟩ (.int .i64 xc)).setCell ⟨hb', 3, none⟩ (.int .i64 xs)) hb' [.int .u32 xa, .int .i64 xl, .int .i64 xc, .int .i64 xs]) := Lib.hid (by
      have z := blk_set (blk_set (blk_set (blk_set N3.out 0 (.int .u32 xa)) 1 (.int .i64 xl)) 2 (.int .i64 xc)) 3 (.int .i64 xs)
      exact z)
    have V4 : Hid (Blk ((((w3.setCell ⟨hb', 0, none⟩ (.int .u32 xa)).setCell ⟨hb', 1, none⟩ (.int .i64 xl)).setCell ⟨hb', 2, none⟩ (.int .i64 xc)).setCell ⟨hb', 3, none⟩ (.int .i64 xs)) b V) := Lib.hid (blk_other (blk_other (blk_other (blk_other V3.out zn 0 _) zn 1 _) zn 2 _) zn 3 _)
    have W4 : Hid (Below w.heap.size w ((((w3.setCell ⟨hb', 0, none⟩ (.int .u32 xa)).setCell ⟨hb', 1, none⟩ (.int .i64 xl)).setCell ⟨hb', 2, none⟩ (.int .i64 xc)).setCell ⟨hb', 3, none⟩ (.int .i64 xs))) := Lib.hid (below_set (below_set (below_set (below_set B3.out hbw 0 _) hbw 1 _) hbw 2 _) hbw 3 _)
    have W4 : Hid (Tu (Td b) w _) := Lib.hid (tu_below (X := Td b) W4.out)
    generalize ((((w3.setCell ⟨hb', 0, none⟩ (.int .u32 xa)).setCell ⟨hb', 1, none⟩ (.int .i64 xl)).setCell ⟨hb', 2, none⟩ (.int .i64 xc)).setCell ⟨hb', 3, none⟩ (.int .i64 xs)) = w4 at *
    clear y0 y1 y2 y3 s0 s1 s2 s3 t0 t1 t2 t3 N3 V3 B3
    have q0 : (0 : Int) ≤ (p : Int) := by omega
    have q1 : (p : Int) ≤ 15 := by omega
    have q2 : (1 : Int) ≤ (p : Int) + 1 := by omega
    have q3 : (p : Int) + 1 ≤ 16 := by omega
    have q6 : (p : Int) ≤ 16 := by omega
    have q4 : ((p : Int) + 1 - 1).toNat = p := by omega
    have q5 : ((p : Int) + 1).toNat - 1 = p := by omega
    have wq : IntKind.i64.wrap ((p : Int) + 1) = (p : Int) + 1 := wrap_in (by omega) (by omega)
    have CL0 : Hid (((V.drop 1).take (p * 4)).length = p * 4) := Lib.hid (by have := L3.out; rw [List.length_take, List.length_drop]; omega)
    have VO : Hid (∀ u ∈ (V.drop 1).take (p * 4), u.oneCell' = true) := Lib.hid fun u hu => O3.out u (List.mem_of_mem_drop (List.mem_of_mem_take hu))
    have CS : Hid (∀ w', Below w4.heap.size w4 w' → (∀ j u, ((V.drop 1).take (p * 4))[j]? = some u → w'.cell? ((⟨b, 1, none⟩ : Addr).add j) = some u) ∧ w'.there b 5 ((V.drop 1).take (p * 4)).length) := Lib.hid fun w' q => ⟨fun j u hj => by
        rw [add_plain]
        have hl := (List.getElem?_eq_some_iff.1 hj).1
        rw [CL0.out] at hl
        rw [List.getElem?_take_of_lt hl, List.getElem?_drop] at hj
        exact ((V4.out.below q).2 (1 + j) u hj).1, fun j hj => by
        rw [CL0.out] at hj
        have e := (V4.out.below q).2 (5 + j) _ (List.getElem?_eq_getElem (by rw [L3.out]; omega))
        exact ⟨by rw [e.1]; rfl, e.2⟩⟩
    obtain ⟨C1, C2⟩ := CS.out w4.drew (brefl _).drew
    have C3 : ((V.drop 1).take (p * 4)).length = Nat.min p p * 4 := by rw [CL0.out]; congr 1; exact (Nat.min_self p).symm
    obtain ⟨cs, hcs⟩ : ∃ cs, (V.drop 1).take (p * 4) = cs := ⟨_, rfl⟩
    have HCS := Lib.hid hcs
    rw [hcs] at C1 C2 C3 VO CL0
    clear hcs CS
    have UN : Try.prog.underlying 47 = some (.slice 55) := Try.underlying47
    have C4 := Lib.hid C1
    have C5 := Lib.hid C2
    clear C1 C2
    go_region_law (refine step_copy_cells rfl (.tmp 39) (.tmp 44) 47 rfl 55 UN 4 info_ps4 b 5 p 15 (by kernel_rfl) ⟨b, 1, none⟩ p 16 (by kernel_rfl) cs C3 C4.out C5.out VO.out ?_)
    have R5 : Hid (Blk (w4.drew.setCells b 5 cs) b (V.take 5 ++ ((V.drop 1).take (p * 4) ++ V.drop (5 + p * 4)))) := Lib.hid (by
      have z := blk_mid (V4.out.below (brefl w4).drew) 5 cs (by rw [CL0.out, L3.out]; omega)
      rw [CL0.out, ← HCS.out] at z
      rw [← HCS.out]
      exact z)
    have T5 := Lib.hid ((W4.out.tr (tu_below (X := Td b) (brefl w4).drew) (fun _ _ q => q)).tr (tu_sets (X := Td b) (b := b) rfl cs 5 w4.drew) (fun _ _ q => q))
    have N5 : Hid (Blk (w4.drew.setCells b 5 cs) hb' [.int .u32 xa, .int .i64 xl, .int .i64 xc, .int .i64 xs]) := Lib.hid (blk_keep (N4.out.below (brefl w4).drew) (World.heap_setCells_other w4.drew b 5 cs N4.out.1 (Ne.symm zn)) (by rw [size_over]; exact Nat.le_refl _))
    generalize w4.drew.setCells b 5 cs = w5 at *
    clear C3 C4 C5 VO CL0 HCS V4 N4 W4 UN
    have ML := Lib.hid (mid_len (V := V) (p := p) L3.out p15)
    have MV : Hid (mvV V p ⟨xa, xl, xc, xs⟩ = ((((V.take 5 ++ ((V.drop 1).take (p * 4) ++ V.drop (5 + p * 4))).set 1 (.int .u32 xa)).set 2 (.int .i64 xl)).set 3 (.int .i64 xc)).set 4 (.int .i64 xs)) := Lib.hid rfl
    generalize V.take 5 ++ ((V.drop 1).take (p * 4) ++ V.drop (5 + p * 4)) = A at ML MV R5
    have hb0 : Below w5.heap.size w5 w5.drew := (brefl w5).drew
    have hk : ∀ i, i < 66 → ∃ v, A[i]? = some v := fun i hi => ⟨_, List.getElem?_eq_getElem (by rw [ML.out]; exact hi)⟩
    obtain ⟨a1, h1⟩ := hk 1 (by decide)
    obtain ⟨a2, h2⟩ := hk 2 (by decide)
    obtain ⟨a3, h3⟩ := hk 3 (by decide)
    obtain ⟨a4, h4⟩ := hk 4 (by decide)
    obtain ⟨f1, g1⟩ := R5.out.2 1 _ h1
    obtain ⟨f2, g2⟩ := R5.out.2 2 _ h2
    obtain ⟨f3, g3⟩ := R5.out.2 3 _ h3
    obtain ⟨f4, g4⟩ := R5.out.2 4 _ h4
    have R5d := R5.out.below hb0
    obtain ⟨f5, g5⟩ := R5d.2 1 _ h1
    obtain ⟨f6, g6⟩ := R5d.2 2 _ h2
    obtain ⟨f7, g7⟩ := R5d.2 3 _ h3
    obtain ⟨f8, g8⟩ := R5d.2 4 _ h4
    obtain ⟨n0, n1, n2, n3⟩ := blk4 N5.out hb0
    obtain ⟨n4, n5, n6, n7⟩ := blk4 N5.out (brefl w5)
    have R6 : Hid (Blk ((((w5.setCell ⟨b, 1, none⟩ (.int .u32 xa)).setCell ⟨b, 2, none⟩ (.int .i64 xl)).setCell ⟨b, 3, none⟩ (.int .i64 xc)).setCell ⟨b, 4, none⟩ (.int .i64 xs)).drew b (mvV V p ⟨xa, xl, xc, xs⟩)) := Lib.hid (by
      rw [MV.out]
      exact (blk_set (blk_set (blk_set (blk_set R5.out 1 (.int .u32 xa)) 2 (.int .i64 xl)) 3 (.int .i64 xc)) 4 (.int .i64 xs)).below (brefl _).drew)
    have T6 : Hid (Tu (Td b) w ((((w5.setCell ⟨b, 1, none⟩ (.int .u32 xa)).setCell ⟨b, 2, none⟩ (.int .i64 xl)).setCell ⟨b, 3, none⟩ (.int .i64 xc)).setCell ⟨b, 4, none⟩ (.int .i64 xs)).drew) := Lib.hid (((((T5.out.set 1 (.int .u32 xa)).set 2 (.int .i64 xl)).set 3 (.int .i64 xc)).set 4 (.int .i64 xs)).tr (tu_below (X := Td b) (brefl _).drew) (fun _ _ q => q))
    clear R5d hb0 hk h1 h2 h3 h4
    go_upto_region 8 with fail
    go_region
    generalize ((((w5.setCell ⟨b, 1, none⟩ (.int .u32 xa)).setCell ⟨b, 2, none⟩ (.int .i64 xl)).setCell ⟨b, 3, none⟩ (.int .i64 xc)).setCell ⟨b, 4, none⟩ (.int .i64 xs)).drew = w6 at *
    clear f1 f2 f3 f4 f5 f6 f7 f8 g1 g2 g3 g4 g5 g6 g7 g8 n0 n1 n2 n3 n4 n5 n6 n7
    have FIN : Hid (PM w6 b Z R (⟨xa, xl, xc, xs⟩ :: mv p H)) := Lib.hid (by
      have e0 := mvV_out L3.out p15 (⟨xa, xl, xc, xs⟩ : Ho) (i := 0) (.inl rfl)
      have e65 := mvV_out L3.out p15 (⟨xa, xl, xc, xs⟩ : Ho) (i := 65) (.inr (by decide))
      rw [if_pos (by decide), R3.out] at e0
      rw [if_neg (by decide), if_neg (by omega), CN.out] at e65
      refine ⟨mvV V p ⟨xa, xl, xc, xs⟩, rv, mvV_len L3.out p15 _, mvV_one O3.out p _, R6.out, e0, e65, by have := BF.out.1; rw [List.length_cons]; omega, tb_move T3.out pH.out L3.out p15 _, ss_keep RS.out (fun g hg hl => T6.out.block g hl (fun e => (Z3.out.2 g hg).2 e)) T6.out.size, Z3.out.1, Z3.out.2, fun i hi => Nat.lt_of_lt_of_le (ZL.out i hi) T6.out.size⟩)
    go_wp2_with fail
    go_ret
    exact ⟨rfl, ⟨_, _, XM.out, BF.out, FIN.out⟩, T6.out⟩
  · have BF := Lib.hid (bf_new (raw := raw) hno HL.out)
    obtain ⟨n, hnn⟩ : ∃ n, H.length = n := ⟨_, rfl⟩
    obtain ⟨p, hpp⟩ : ∃ p, min n 15 = p := ⟨_, rfl⟩
    have p15 : p ≤ 15 := by omega
    have n16 : n ≤ 16 := by rw [← hnn]; exact HL.out
    have pH : Hid (p ≤ H.length) := Lib.hid (by omega)
    rw [hnn, hpp] at BF
    have XM : Hid ((⟨a, raw, 0, 0⟩ : Ho) ∈ H ∨ (⟨a, raw, 0, 0⟩ : Ho) = ⟨a, raw, 0, 0⟩) := Lib.hid (.inr rfl)
    obtain ⟨s65, t65⟩ := V3.out.2 65 _ C3.out
    rw [hnn] at s65
    have hmin : (if 15 < (n : Int) then (15 : Int) else (n : Int)) = (p : Int) := by split <;> omega
    have wp1 : IntKind.i64.wrap ((p : Int) + 1) = (p : Int) + 1 := wrap_in (by omega) (by omega)
    have CN : Hid ((V.set 65 (.int .i64 ((p : Int) + 1)))[65]? = some (.int .i64 (((⟨a, raw, 0, 0⟩ : Ho) :: mv p H).length : Nat))) := Lib.hid (by
      have l : ((⟨a, raw, 0, 0⟩ : Ho) :: mv p H).length = p + 1 := by
        unfold mv
        rw [List.length_cons, List.length_append, List.length_take, List.length_drop]
        omega
      rw [l, List.getElem?_set_self (by rw [L3.out]; decide)]
      rfl)
    clear hno C3 hpp hnn
    go_upto_region 7 with fail
    have V4 := Lib.hid (blk_set V3.out 65 (.int .i64 ((p : Int) + 1)))
    have N4 := Lib.hid (blk_other N3.out (b' := b) (Ne.symm zn) 65 (.int .i64 ((p : Int) + 1)))
    have W4 := Lib.hid ((tu_below (X := Td b) B3.out).set 65 (.int .i64 ((p : Int) + 1)))
    have L3 : Hid ((V.set 65 (.int .i64 ((p : Int) + 1))).length = 66) := Lib.hid (by rw [List.length_set]; exact L3.out)
    have O3 : Hid (∀ v ∈ V.set 65 (.int .i64 ((p : Int) + 1)), v.oneCell' = true) := Lib.hid (fun v hv => (List.mem_or_eq_of_mem_set hv).elim (O3.out v) (fun e => by rw [e]; rfl))
    have R3 : Hid ((V.set 65 (.int .i64 ((p : Int) + 1)))[0]? = some rv) := Lib.hid (by rw [List.getElem?_set_ne (by omega)]; exact R3.out)
    have T3 : Hid (Tb (V.set 65 (.int .i64 ((p : Int) + 1))) H) := Lib.hid (fun j s hj i v hi => by
      have j16 : j < H.length := (List.getElem?_eq_some_iff.1 hj).1
      have i4 : i < 4 := by have := (List.getElem?_eq_some_iff.1 hi).1; simpa [hvs] using this
      have := HL.out
      rw [List.getElem?_set_ne (by omega)]
      exact T3.out j s hj i v hi)
    generalize V.set 65 (.int .i64 ((p : Int) + 1)) = V at *
    generalize w3.setCell ⟨b, 65, none⟩ (.int .i64 ((p : Int) + 1)) = w4 at *
    clear s65 t65 N3 V3 B3 hmin wp1
    have q0 : (0 : Int) ≤ (p : Int) := by omega
    have q1 : (p : Int) ≤ 15 := by omega
    have q2 : (1 : Int) ≤ (p : Int) + 1 := by omega
    have q3 : (p : Int) + 1 ≤ 16 := by omega
    have q6 : (p : Int) ≤ 16 := by omega
    have q4 : ((p : Int) + 1 - 1).toNat = p := by omega
    have q5 : ((p : Int) + 1).toNat - 1 = p := by omega
    have wq : IntKind.i64.wrap ((p : Int) + 1) = (p : Int) + 1 := wrap_in (by omega) (by omega)
    have CL0 : Hid (((V.drop 1).take (p * 4)).length = p * 4) := Lib.hid (by have := L3.out; rw [List.length_take, List.length_drop]; omega)
    have VO : Hid (∀ u ∈ (V.drop 1).take (p * 4), u.oneCell' = true) := Lib.hid fun u hu => O3.out u (List.mem_of_mem_drop (List.mem_of_mem_take hu))
    have CS : Hid (∀ w', Below w4.heap.size w4 w' → (∀ j u, ((V.drop 1).take (p * 4))[j]? = some u → w'.cell? ((⟨b, 1, none⟩ : Addr).add j) = some u) ∧ w'.there b 5 ((V.drop 1).take (p * 4)).length) := Lib.hid fun w' q => ⟨fun j u hj => by
        rw [add_plain]
        have hl := (List.getElem?_eq_some_iff.1 hj).1
        rw [CL0.out] at hl
        rw [List.getElem?_take_of_lt hl, List.getElem?_drop] at hj
        exact ((V4.out.below q).2 (1 + j) u hj).1, fun j hj => by
        rw [CL0.out] at hj
        have e := (V4.out.below q).2 (5 + j) _ (List.getElem?_eq_getElem (by rw [L3.out]; omega))
        exact ⟨by rw [e.1]; rfl, e.2⟩⟩
    obtain ⟨C1, C2⟩ := CS.out w4.drew (brefl _).drew
    have C3 : ((V.drop 1).take (p * 4)).length = Nat.min p p * 4 := by rw [CL0.out]; congr 1; exact (Nat.min_self p).symm
    obtain ⟨cs, hcs⟩ : ∃ cs, (V.drop 1).take (p * 4) = cs := ⟨_, rfl⟩
    have HCS := Lib.hid hcs
    rw [hcs] at C1 C2 C3 VO CL0
    clear hcs CS
    have UN : Try.prog.underlying 47 = some (.slice 55) := Try.underlying47
    have C4 := Lib.hid C1
    have C5 := Lib.hid C2
    clear C1 C2
    go_region_law (refine step_copy_cells rfl (.tmp 39) (.tmp 44) 47 rfl 55 UN 4 info_ps4 b 5 p 15 (by kernel_rfl) ⟨b, 1, none⟩ p 16 (by kernel_rfl) cs C3 C4.out C5.out VO.out ?_)
    have R5 : Hid (Blk (w4.drew.setCells b 5 cs) b (V.take 5 ++ ((V.drop 1).take (p * 4) ++ V.drop (5 + p * 4)))) := Lib.hid (by
      have z := blk_mid (V4.out.below (brefl w4).drew) 5 cs (by rw [CL0.out, L3.out]; omega)
      rw [CL0.out, ← HCS.out] at z
      rw [← HCS.out]
      exact z)
    have T5 := Lib.hid ((W4.out.tr (tu_below (X := Td b) (brefl w4).drew) (fun _ _ q => q)).tr (tu_sets (X := Td b) (b := b) rfl cs 5 w4.drew) (fun _ _ q => q))
    have N5 : Hid (Blk (w4.drew.setCells b 5 cs) hb' [.int .u32 a, .int .i64 raw, .int .i64 0, .int .i64 0]) := Lib.hid (blk_keep (N4.out.below (brefl w4).drew) (World.heap_setCells_other w4.drew b 5 cs N4.out.1 (Ne.symm zn)) (by rw [size_over]; exact Nat.le_refl _))
    generalize w4.drew.setCells b 5 cs = w5 at *
    clear C3 C4 C5 VO CL0 HCS V4 N4 W4 UN
    have ML := Lib.hid (mid_len (V := V) (p := p) L3.out p15)
    have MV : Hid (mvV V p ⟨a, raw, 0, 0⟩ = ((((V.take 5 ++ ((V.drop 1).take (p * 4) ++ V.drop (5 + p * 4))).set 1 (.int .u32 a)).set 2 (.int .i64 raw)).set 3 (.int .i64 0)).set 4 (.int .i64 0)) := Lib.hid rfl
    generalize V.take 5 ++ ((V.drop 1).take (p * 4) ++ V.drop (5 + p * 4)) = A at ML MV R5
    have hb0 : Below w5.heap.size w5 w5.drew := (brefl w5).drew
    have hk : ∀ i, i < 66 → ∃ v, A[i]? = some v := fun i hi => ⟨_, List.getElem?_eq_getElem (by rw [ML.out]; exact hi)⟩
    obtain ⟨a1, h1⟩ := hk 1 (by decide)
    obtain ⟨a2, h2⟩ := hk 2 (by decide)
    obtain ⟨a3, h3⟩ := hk 3 (by decide)
    obtain ⟨a4, h4⟩ := hk 4 (by decide)
    obtain ⟨f1, g1⟩ := R5.out.2 1 _ h1
    obtain ⟨f2, g2⟩ := R5.out.2 2 _ h2
    obtain ⟨f3, g3⟩ := R5.out.2 3 _ h3
    obtain ⟨f4, g4⟩ := R5.out.2 4 _ h4
    have R5d := R5.out.below hb0
    obtain ⟨f5, g5⟩ := R5d.2 1 _ h1
    obtain ⟨f6, g6⟩ := R5d.2 2 _ h2
    obtain ⟨f7, g7⟩ := R5d.2 3 _ h3
    obtain ⟨f8, g8⟩ := R5d.2 4 _ h4
    obtain ⟨n0, n1, n2, n3⟩ := blk4 N5.out hb0
    obtain ⟨n4, n5, n6, n7⟩ := blk4 N5.out (brefl w5)
    have R6 : Hid (Blk ((((w5.setCell ⟨b, 1, none⟩ (.int .u32 a)).setCell ⟨b, 2, none⟩ (.int .i64 raw)).setCell ⟨b, 3, none⟩ (.int .i64 0)).setCell ⟨b, 4, none⟩ (.int .i64 0)).drew b (mvV V p ⟨a, raw, 0, 0⟩)) := Lib.hid (by
      rw [MV.out]
      exact (blk_set (blk_set (blk_set (blk_set R5.out 1 (.int .u32 a)) 2 (.int .i64 raw)) 3 (.int .i64 0)) 4 (.int .i64 0)).below (brefl _).drew)
    have T6 : Hid (Tu (Td b) w ((((w5.setCell ⟨b, 1, none⟩ (.int .u32 a)).setCell ⟨b, 2, none⟩ (.int .i64 raw)).setCell ⟨b, 3, none⟩ (.int .i64 0)).setCell ⟨b, 4, none⟩ (.int .i64 0)).drew) := Lib.hid (((((T5.out.set 1 (.int .u32 a)).set 2 (.int .i64 raw)).set 3 (.int .i64 0)).set 4 (.int .i64 0)).tr (tu_below (X := Td b) (brefl _).drew) (fun _ _ q => q))
    clear R5d hb0 hk h1 h2 h3 h4
    go_upto_region 8 with fail
    go_region
    generalize ((((w5.setCell ⟨b, 1, none⟩ (.int .u32 a)).setCell ⟨b, 2, none⟩ (.int .i64 raw)).setCell ⟨b, 3, none⟩ (.int .i64 0)).setCell ⟨b, 4, none⟩ (.int .i64 0)).drew = w6 at *
    clear f1 f2 f3 f4 f5 f6 f7 f8 g1 g2 g3 g4 g5 g6 g7 g8 n0 n1 n2 n3 n4 n5 n6 n7
    have FIN : Hid (PM w6 b Z R (⟨a, raw, 0, 0⟩ :: mv p H)) := Lib.hid (by
      have e0 := mvV_out L3.out p15 (⟨a, raw, 0, 0⟩ : Ho) (i := 0) (.inl rfl)
      have e65 := mvV_out L3.out p15 (⟨a, raw, 0, 0⟩ : Ho) (i := 65) (.inr (by decide))
      rw [if_pos (by decide), R3.out] at e0
      rw [if_neg (by decide), if_neg (by omega), CN.out] at e65
      refine ⟨mvV V p ⟨a, raw, 0, 0⟩, rv, mvV_len L3.out p15 _, mvV_one O3.out p _, R6.out, e0, e65, by have := BF.out.1; rw [List.length_cons]; omega, tb_move T3.out pH.out L3.out p15 _, ss_keep RS.out (fun g hg hl => T6.out.block g hl (fun e => (Z3.out.2 g hg).2 e)) T6.out.size, Z3.out.1, Z3.out.2, fun i hi => Nat.lt_of_lt_of_le (ZL.out i hi) T6.out.size⟩)
    go_wp2_with fail
    go_ret
    exact ⟨rfl, ⟨_, _, .inr rfl, BF.out, FIN.out⟩, T6.out⟩
end Go.Proofs.Ytdngoopogajhiaa.Gu
