/-
  The document's Hull of spans.
  Conditions: none but that the spans lie in memory.
-/
import Derived.Test.YtppflfodkhhfhaaHuB
namespace Go.Proofs.Ytppflfodkhhfhaa.Hu
open Go.RowKit Go.ChangeShapes Go.WideShapes Go.ChangeAt Go.Joins Fl
set_option linter.unusedVariables false
set_option linter.unusedSimpArgs false

/-- the hull, if there is one. -/
noncomputable def huV (L : List Sn) (f : Nat) : Option (Int × Int) := by
  classical
  exact if h : ∃ p : Int × Int, Hull L f p.1 p.2 then some h.choose else none
theorem huV_some {L : List Sn} {f : Nat} {m M : Int} (h : Hull L f m M) : huV L f = some (m, M) := by
  unfold huV
  have e : ∃ p : Int × Int, Hull L f p.1 p.2 := ⟨(m, M), h⟩
  rw [dif_pos e]
  obtain ⟨h1, h2⟩ := e.choose_spec.one h
  exact congrArg some (Prod.ext h1 h2)
theorem huV_none {L : List Sn} {f : Nat} (h : ∀ t, ¬ Enough L f t) : huV L f = none := by
  unfold huV
  rw [dif_neg]
  rintro ⟨p, hp⟩
  exact h _ hp.1
theorem huV_hull {L : List Sn} {f : Nat} {m M : Int} (h : huV L f = some (m, M)) : Hull L f m M := by
  unfold huV at h
  split at h
  · rename_i e
    simp only [Option.some.injEq] at h
    have := e.choose_spec
    rw [h] at this
    exact this
  · cases h
theorem huV_nil {L : List Sn} {f : Nat} (hf : f < L.length) (h : huV L f = none) : ∀ t, ¬ Enough L f t := fun t q => by
  obtain ⟨m, M, k⟩ := hull_some hf q
  rw [huV_some k] at h
  cases h
/-- what Hull answers. -/
noncomputable def huA (L : List Sn) (f : Int) : (Int × Int) × Int := if okL L then (if f < 0 then ((0, 0), 2) else if (L.length : Int) ≤ f then ((0, 0), 61) else match huV L f.toNat with | none => ((0, 0), 60) | some p => (p, 0)) else ((0, 0), 3)
noncomputable def huE (L : List Sn) (f : Int) : Ending := .returned (.tuple #[.agg #[.int .i64 (huA L f).1.1, .int .i64 (huA L f).1.2], .int .i64 (huA L f).2])
theorem huE_at {L : List Sn} {f : Int} {a b e : Int} (h : huA L f = ((a, b), e)) : huE L f = .returned (.tuple #[.agg #[.int .i64 a, .int .i64 b], .int .i64 e]) := by unfold huE; rw [h]
theorem huA_shape {L : List Sn} {f : Int} (h : ¬ okL L) : huA L f = ((0, 0), 3) := by unfold huA; rw [if_neg h]
theorem huA_range {L : List Sn} {f : Int} (h : okL L) (hf : f < 0) : huA L f = ((0, 0), 2) := by unfold huA; rw [if_pos h, if_pos hf]
theorem huA_bound {L : List Sn} {f : Int} (h : okL L) (hf : ¬ f < 0) (hn : (L.length : Int) ≤ f) : huA L f = ((0, 0), 61) := by unfold huA; rw [if_pos h, if_neg hf, if_pos hn]
theorem huA_none {L : List Sn} {f : Nat} (h : okL L) (hn : f < L.length) (hv : ∀ t, ¬ Enough L f t) : huA L f = ((0, 0), 60) := by
  unfold huA; rw [if_pos h, if_neg (by omega), if_neg (by omega), Int.toNat_natCast, huV_none hv]
theorem huA_some {L : List Sn} {f : Nat} {m M : Int} (h : okL L) (hn : f < L.length) (hv : Hull L f m M) : huA L f = ((m, M), 0) := by
  unfold huA; rw [if_pos h, if_neg (by omega), if_neg (by omega), Int.toNat_natCast, huV_some hv]
/-- the least beginning and the greatest end so far. -/
def Lo (L : List Sn) (f k : Nat) (b : Bool) (lo : Int) : Prop := (b = false → lo = 2305843009213693952) ∧ (b = true → Enough L f lo) ∧ (∀ s ∈ L.take k, Enough L f s.lo → b = true ∧ lo ≤ s.lo)
def Hi (L : List Sn) (f k : Nat) (hi : Int) : Prop := (hi = -2305843009213693952 ∨ Enough L f hi) ∧ (∀ s ∈ L.take k, Enough L f s.hi → s.hi ≤ hi)
theorem mem_snoc {L : List Sn} {k : Nat} {x s : Sn} (h : L[k]? = some x) (hs : s ∈ L.take (k + 1)) : s ∈ L.take k ∨ s = x := by
  obtain ⟨h1, h2⟩ := List.getElem?_eq_some_iff.1 h
  rw [List.take_succ_eq_append_getElem h1, h2] at hs
  simpa using hs
theorem Lo.yes {L : List Sn} {f k : Nat} {b : Bool} {lo : Int} (h : Lo L f k b lo) {x : Sn} (hx : L[k]? = some x) (ox : okN x) (q : Enough L f x.lo) : Lo L f (k + 1) true (min lo x.lo) := by
  obtain ⟨h1, h2, h3⟩ := h
  have xf : x.lo ≤ 2305843009213693952 := by have := ox.1; have := ox.2.2; omega
  refine ⟨fun e => (by cases e), fun _ => ?_, fun s hs e => ⟨rfl, ?_⟩⟩
  · rcases Int.le_total lo x.lo with c | c
    · rw [Int.min_eq_left c]
      cases b with
      | true => exact h2 rfl
      | false => rw [show lo = x.lo by have := h1 rfl; omega]; exact q
    · rw [Int.min_eq_right c]; exact q
  · rcases mem_snoc hx hs with hs | rfl
    · have := (h3 s hs e).2; omega
    · omega
theorem Lo.no {L : List Sn} {f k : Nat} {b : Bool} {lo : Int} (h : Lo L f k b lo) {x : Sn} (hx : L[k]? = some x) (q : ¬ Enough L f x.lo) : Lo L f (k + 1) b lo :=
  ⟨h.1, h.2.1, fun s hs e => by
    rcases mem_snoc hx hs with hs | rfl
    · exact h.2.2 s hs e
    · exact absurd e q⟩
theorem Hi.yes {L : List Sn} {f k : Nat} {hi : Int} (h : Hi L f k hi) {x : Sn} (hx : L[k]? = some x) (q : Enough L f x.hi) : Hi L f (k + 1) (max hi x.hi) := by
  obtain ⟨h1, h2⟩ := h
  refine ⟨?_, fun s hs e => ?_⟩
  · rcases Int.le_total hi x.hi with c | c
    · rw [Int.max_eq_right c]; exact .inr q
    · rw [Int.max_eq_left c]; exact h1
  · rcases mem_snoc hx hs with hs | rfl
    · have := h2 s hs e; omega
    · omega
theorem Hi.no {L : List Sn} {f k : Nat} {hi : Int} (h : Hi L f k hi) {x : Sn} (hx : L[k]? = some x) (q : ¬ Enough L f x.hi) : Hi L f (k + 1) hi :=
  ⟨h.1, fun s hs e => by
    rcases mem_snoc hx hs with hs | rfl
    · exact h.2 s hs e
    · exact absurd e q⟩
theorem Lo.none {L : List Sn} {f : Nat} {lo : Int} (hf : f < L.length) (h : Lo L f L.length false lo) : ∀ t, ¬ Enough L f t :=
  none_of_lows hf fun s hs e => by
    have := (h.2.2 s (by rwa [List.take_length]) e).1
    cases this
theorem Lo.hull {L : List Sn} {f : Nat} {lo hi : Int} (hf : f < L.length) (hL : ∀ s ∈ L, okN s) (h : Lo L f L.length true lo) (k : Hi L f L.length hi) : Hull L f lo hi := by
  obtain ⟨_, h2, h3⟩ := h
  obtain ⟨k1, k2⟩ := k
  rw [List.take_length] at h3 k2
  refine hull_ends hf (h2 rfl) ?_ (fun s hs e => (h3 s hs e).2) k2
  rcases k1 with k1 | k1
  · obtain ⟨s, hs, a, e⟩ := high_of hf (h2 rfl)
    have := k2 s hs e
    have := hL s hs
    unfold okN at this
    rw [show hi = s.hi by omega]
    exact e
  · exact k1
set_option maxRecDepth 100000 in
set_option maxHeartbeats 8000000 in
theorem rHull_c {w : World} {v : Value} {L : List Sn} (h : Hs w v L) (hn : L.length ≤ 8796093022208) (f : Int) (hfi : -9223372036854775808 ≤ f ∧ f ≤ 9223372036854775807) :
    Calls Try.prog 9 #[v, .int .i64 f] w fun e w' => e = huE L f ∧ Below w.heap.size w w' := by
  have B0 := Lib.hid (balloc (brefl w) (.cells #[.int .i64 0, .int .i64 0] 25))
  have N0 := Lib.hid (new2 w 0 0 25)
  have CK := Lib.hid (rcheck_c (h.below B0.out) hn)
  have CN := Lib.hid (fun w' (q : Below w.heap.size w w') t => rcount_c (h.below q) hn t)
  have HS := Lib.hid h
  have RZ : Hid (∀ W (a b e : Int), Blk W w.heap.size [.int .i64 a, .int .i64 b] → huA L f = ((a, b), e) → ∀ tmps : Array Value, tmps.getD 4 undef = .pointer (some ⟨w.heap.size, 0, none⟩) → tmps.getD 5 undef = .int .i64 e → (results Try.f9 tmps).run Try.prog W = .ok (.tuple #[.agg #[.int .i64 a, .int .i64 b], .int .i64 e]) W) := Lib.hid fun W a b e hb _ tmps h1 h2 =>
    results_cell_slot rfl tmps W w.heap.size [.int .i64 a, .int .i64 b] _ _ h1 h2 hb.range Try.underlying25 rfl (by exact info_sn)
  obtain ⟨a, cap, rfl, c1, c2, _⟩ := h
  obtain ⟨m, hm⟩ : ∃ m, L.length = m := ⟨_, rfl⟩
  have HM := Lib.hid hm
  by_cases ok : okL L
  · rw [decide_eq_true ok] at CK
    have m32 : m ≤ 32 := hm ▸ ok.2
    have OK := Lib.hid ok
    by_cases fn : f < 0
    · have AE := Lib.hid (huA_range ok fn)
      have d0 := decide_eq_true fn
      rw [hm]
      rw [hm] at CK
      clear ok hm
      go_enter Try.func9, Try.ntmps9
      go_wp2_with fail
      refine CK.out.mono ?_
      rintro e w1 ⟨rfl, hb⟩
      have B1 := Lib.hid (bstep B0.out hb)
      have N1 := Lib.hid (N0.out.below hb)
      clear hb N0 B0 CK
      have S2 := Lib.hid (blk_set (blk_set N1.out 0 (.int .i64 0)) 1 (.int .i64 0))
      have B2 := Lib.hid (below_set (below_set B1.out (Nat.le_refl w.heap.size) 0 (.int .i64 0)) (Nat.le_refl w.heap.size) 1 (.int .i64 0))
      obtain ⟨z0, z1⟩ := blk2 N1.out (brefl _)
      have f0 := (N1.out.2 0 _ rfl).2
      have f1 := (N1.out.2 1 _ rfl).2
      go_wp2_with fail
      exact bodyPost_ret (v := .tuple #[.agg #[.int .i64 0, .int .i64 0], .int .i64 2]) (RZ.out _ 0 0 2 S2.out AE.out _ rfl rfl) rfl ⟨(huE_at AE.out).symm, B2.out⟩
    · have d0 := decide_eq_false fn
      by_cases fb : (m : Int) ≤ f
      · have AE := Lib.hid (huA_bound ok fn (by rw [hm]; exact fb))
        have d1 := decide_eq_true fb
        rw [hm]
        rw [hm] at CK
        clear ok hm
        go_enter Try.func9, Try.ntmps9
        go_wp2_with fail
        refine CK.out.mono ?_
        rintro e w1 ⟨rfl, hb⟩
        have B1 := Lib.hid (bstep B0.out hb)
        have N1 := Lib.hid (N0.out.below hb)
        clear hb N0 B0 CK
        have S2 := Lib.hid (blk_set (blk_set N1.out 0 (.int .i64 0)) 1 (.int .i64 0))
        have B2 := Lib.hid (below_set (below_set B1.out (Nat.le_refl w.heap.size) 0 (.int .i64 0)) (Nat.le_refl w.heap.size) 1 (.int .i64 0))
        obtain ⟨z0, z1⟩ := blk2 N1.out (brefl _)
        have f0 := (N1.out.2 0 _ rfl).2
        have f1 := (N1.out.2 1 _ rfl).2
        go_wp2_with fail
        exact bodyPost_ret (v := .tuple #[.agg #[.int .i64 0, .int .i64 0], .int .i64 61]) (RZ.out _ 0 0 61 S2.out AE.out _ rfl rfl) rfl ⟨(huE_at AE.out).symm, B2.out⟩
      · have d1 := decide_eq_false fb
        obtain ⟨g, rfl⟩ := Int.eq_ofNat_of_zero_le (show 0 ≤ f by omega)
        have gm : g < m := by omega
        have d1' : decide (m ≤ g) = false := decide_eq_false (by omega)
        have d0' : decide ((g : Int) < 0) = false := decide_eq_false (by omega)
        have gl : Hid (g < L.length) := Lib.hid (by rw [hm]; exact gm)
        have EN : Hid (∀ t, Enough L g t ↔ (m : Int) - (g : Int) ≤ (cnt L t : Nat)) := Lib.hid fun t => by unfold Enough; rw [hm]; omega
        have CL : Hid (∀ t, cnt L t ≤ m) := Lib.hid fun t => hm ▸ cnt_le L t
        rw [hm] at CN CK HS c1 hn ⊢
        have m0 : (0 : Int) ≤ (m : Int) := by omega
        have m1 : (m : Int) ≤ 32 := by omega
        have m2 : (m : Int) ≤ (cap : Int) := by omega
        have m3 : (cap : Int) ≤ 9223372036854775807 := by omega
        have wg : IntKind.i64.wrap ((m : Int) - (g : Int)) = (m : Int) - (g : Int) := wrap_in (by omega) (by omega)
        clear ok hm
        go_enter Try.func9, Try.ntmps9
        go_wp2_with fail
        refine CK.out.mono ?_
        rintro e w1 ⟨rfl, hb⟩
        have B1 := Lib.hid (bstep B0.out hb)
        have N1 := Lib.hid (N0.out.below hb)
        clear hb N0 B0 CK
        have MB := Lib.hid (new2 w1 2305843009213693952 (-2305843009213693952) 25)
        have B2 := Lib.hid (balloc B1.out (.cells #[.int .i64 2305843009213693952, .int .i64 (-2305843009213693952)] 25))
        have N2 := Lib.hid (N1.out.below (balloc (brefl w1) (.cells #[.int .i64 2305843009213693952, .int .i64 (-2305843009213693952)] 25)))
        obtain ⟨hb, hhb⟩ : ∃ b, w1.heap.size = b := ⟨_, rfl⟩
        rw [hhb] at MB
        have lt : Hid (w.heap.size < hb) := Lib.hid (hhb ▸ N1.out.1)
        have NX : Hid (huA L (g : Int) = huA L (g : Int)) := Lib.hid rfl
        go_wp2_with fail
        clear hhb N1 B1
        go_loopw [7, 8] (fun bv iv wr => ∃ (k : Nat) (b : Bool) (lo hi : Int), k ≤ m ∧ iv = .int .i64 (k : Nat) ∧ bv = .bool b ∧ Lo L g k b lo ∧ Hi L g k hi ∧ Blk wr hb [.int .i64 lo, .int .i64 hi] ∧ Blk wr w.heap.size [.int .i64 0, .int .i64 0] ∧ Below w.heap.size w wr) (fun _ iv _ => m - (intOf iv).toNat)
        case atStart => exact ⟨0, false, _, _, by omega, rfl, rfl, ⟨fun _ => rfl, fun q => (by cases q), fun s hs => absurd hs (by simp)⟩, ⟨.inl rfl, fun s hs => absurd hs (by simp)⟩, MB.out, N2.out, B2.out⟩
        case round =>
          obtain ⟨k, b, lo, hi, hk, rfl, rfl, hlo, hhi, hbl, hn0, hbb⟩ := hrel
          rename World => wr
          have HLO := Lib.hid hlo
          have HHI := Lib.hid hhi
          have BL := Lib.hid hbl
          have N3 := Lib.hid hn0
          have HB := Lib.hid hbb
          clear hlo hhi hbl hn0 hbb MB B2 N2
          by_cases c : k < m
          · have e1 : decide ((k : Int) < (m : Int)) = true := decide_eq_true (by omega)
            have e2 : decide (k < m) = true := decide_eq_true c
            have k1 : (k : Int) < (m : Int) := by omega
            have wk : IntKind.i64.wrap ((k : Int) + 1) = (k : Int) + 1 := wrap_in (by omega) (by omega)
            obtain ⟨x, hx⟩ : ∃ x, L[k]? = some x := ⟨_, List.getElem?_eq_getElem (by rw [HM.out]; exact c)⟩
            have HX := Lib.hid hx
            have ox := Lib.hid (OK.out.1 x (List.mem_of_getElem? hx))
            obtain ⟨sb, so, rfl, y0, y1⟩ := (HS.out.below HB.out).at hx
            have CC : Hid (∀ W, Below w.heap.size w W → W.cell? ⟨sb, so + k * 2, none⟩ = some (.int .i64 x.lo) ∧ W.cell? ⟨sb, so + k * 2 + 1, none⟩ = some (.int .i64 x.hi)) := Lib.hid fun W q => by
              obtain ⟨sb', so', e, a, b⟩ := (HS.out.below q).at HX.out
              cases e
              exact ⟨a, b⟩
            have C0 := Lib.hid (CN.out wr HB.out x.lo)
            have CA := Lib.hid (EN.out x.lo)
            have CB := Lib.hid (EN.out x.hi)
            have l0 := CL.out x.lo
            have l1 := CL.out x.hi
            have CH := Lib.hid (fun W q => CN.out W q x.hi)
            generalize cnt L x.lo = n0 at *
            generalize cnt L x.hi = n1 at *
            obtain ⟨xl, xh⟩ := x
            simp only at y0 y1 C0 CA CB CC CH
            clear hx
            go_wp2_with fail
            refine C0.out.mono ?_
            rintro e w4 ⟨rfl, hh⟩
            have B4 := Lib.hid (bstep HB.out hh)
            have BL4 := Lib.hid (BL.out.below hh)
            have N4 := Lib.hid (N3.out.below hh)
            clear hh y0 y1 C0 BL N3 HB
            by_cases q0 : (m : Int) - (g : Int) ≤ (n0 : Int)
            · have d2 := decide_eq_true q0
              obtain ⟨nl, hnl⟩ : ∃ z, min lo xl = z := ⟨_, rfl⟩
              have LO2 := Lib.hid (HLO.out.yes HX.out ox.out (CA.out.2 q0))
              rw [show min lo (⟨xl, xh⟩ : Sn).lo = nl from hnl] at LO2
              obtain ⟨z0, z1⟩ := CC.out _ B4.out
              obtain ⟨t0, t1⟩ := CC.out _ (bdrew B4.out 1)
              obtain ⟨p0, p1⟩ := blk2 BL4.out (brefl w4)
              obtain ⟨v0, v1⟩ := blk2 BL4.out (brefl w4).drew
              have f0 := (BL4.out.2 0 _ rfl).2
              have f1 := ((BL4.out.below (brefl w4).drew).2 0 _ rfl).2
              have BL5 : Hid (Blk (w4.setCell ⟨hb, 0, none⟩ (.int .i64 nl)).drew hb [.int .i64 nl, .int .i64 hi]) := Lib.hid ((blk_set BL4.out 0 (.int .i64 nl)).below (brefl _).drew)
              have N5 : Hid (Blk (w4.setCell ⟨hb, 0, none⟩ (.int .i64 nl)).drew w.heap.size [.int .i64 0, .int .i64 0]) := Lib.hid ((blk_other N4.out (Nat.ne_of_lt lt.out) 0 (.int .i64 nl)).below (brefl _).drew)
              have B5 : Hid (Below w.heap.size w (w4.setCell ⟨hb, 0, none⟩ (.int .i64 nl)).drew) := Lib.hid (bstep (below_set B4.out (Nat.le_of_lt lt.out) 0 (.int .i64 nl)) (brefl _).drew)
              go_upto_region 13 with fail
              go_region
              generalize (w4.setCell ⟨hb, 0, none⟩ (.int .i64 nl)).drew = w5 at *
              clear z0 z1 t0 t1 p0 p1 v0 v1 f0 f1
              obtain ⟨z0, z1⟩ := CC.out _ B5.out
              have C1 := Lib.hid (CH.out w5 B5.out)
              go_wp2_with fail
              refine C1.out.mono ?_
              rintro e w6 ⟨rfl, hh⟩
              have B6 := Lib.hid (bstep B5.out hh)
              have BL6 := Lib.hid (BL5.out.below hh)
              have N6 := Lib.hid (N5.out.below hh)
              clear hh z0 z1 C1
              by_cases q1 : (m : Int) - (g : Int) ≤ (n1 : Int)
              · have d3 := decide_eq_true q1
                obtain ⟨nh, hnh⟩ : ∃ z, max hi xh = z := ⟨_, rfl⟩
                have HI2 := Lib.hid (HHI.out.yes HX.out (CB.out.2 q1))
                rw [show max hi (⟨xl, xh⟩ : Sn).hi = nh from hnh] at HI2
                obtain ⟨z0, z1⟩ := CC.out _ B6.out
                obtain ⟨t0, t1⟩ := CC.out _ (bdrew B6.out 1)
                obtain ⟨p0, p1⟩ := blk2 BL6.out (brefl w6)
                obtain ⟨v0, v1⟩ := blk2 BL6.out (brefl w6).drew
                have f0 := (BL6.out.2 1 _ rfl).2
                have f1 := ((BL6.out.below (brefl w6).drew).2 1 _ rfl).2
                have BL7 : Hid (Blk (w6.setCell ⟨hb, 1, none⟩ (.int .i64 nh)).drew hb [.int .i64 nl, .int .i64 nh]) := Lib.hid ((blk_set BL6.out 1 (.int .i64 nh)).below (brefl _).drew)
                have N7 : Hid (Blk (w6.setCell ⟨hb, 1, none⟩ (.int .i64 nh)).drew w.heap.size [.int .i64 0, .int .i64 0]) := Lib.hid ((blk_other N6.out (Nat.ne_of_lt lt.out) 1 (.int .i64 nh)).below (brefl _).drew)
                have B7 : Hid (Below w.heap.size w (w6.setCell ⟨hb, 1, none⟩ (.int .i64 nh)).drew) := Lib.hid (bstep (below_set B6.out (Nat.le_of_lt lt.out) 1 (.int .i64 nh)) (brefl _).drew)
                go_upto_region 16 with fail
                go_region
                generalize (w6.setCell ⟨hb, 1, none⟩ (.int .i64 nh)).drew = w7 at *
                go_wp2_with fail
                exact ⟨⟨k + 1, _, _, _, by omega, by go_num, rfl, LO2.out, HI2.out, BL7.out, N7.out, B7.out⟩, by simp [intOf]; omega⟩
              · have d3 := decide_eq_false q1
                have HI2 := Lib.hid (HHI.out.no HX.out (fun q => q1 (CB.out.1 q)))
                go_wp2_with fail
                exact ⟨⟨k + 1, _, _, _, by omega, by go_num, rfl, LO2.out, HI2.out, BL6.out, N6.out, B6.out⟩, by simp [intOf]; omega⟩
            · have d2 := decide_eq_false q0
              have LO2 := Lib.hid (HLO.out.no HX.out (fun q => q0 (CA.out.1 q)))
              obtain ⟨z0, z1⟩ := CC.out _ B4.out
              have C1 := Lib.hid (CH.out w4 B4.out)
              go_wp2_with fail
              refine C1.out.mono ?_
              rintro e w6 ⟨rfl, hh⟩
              have B6 := Lib.hid (bstep B4.out hh)
              have BL6 := Lib.hid (BL4.out.below hh)
              have N6 := Lib.hid (N4.out.below hh)
              clear hh z0 z1 C1
              by_cases q1 : (m : Int) - (g : Int) ≤ (n1 : Int)
              · have d3 := decide_eq_true q1
                obtain ⟨nh, hnh⟩ : ∃ z, max hi xh = z := ⟨_, rfl⟩
                have HI2 := Lib.hid (HHI.out.yes HX.out (CB.out.2 q1))
                rw [show max hi (⟨xl, xh⟩ : Sn).hi = nh from hnh] at HI2
                obtain ⟨z0, z1⟩ := CC.out _ B6.out
                obtain ⟨t0, t1⟩ := CC.out _ (bdrew B6.out 1)
                obtain ⟨p0, p1⟩ := blk2 BL6.out (brefl w6)
                obtain ⟨v0, v1⟩ := blk2 BL6.out (brefl w6).drew
                have f0 := (BL6.out.2 1 _ rfl).2
                have f1 := ((BL6.out.below (brefl w6).drew).2 1 _ rfl).2
                have BL7 : Hid (Blk (w6.setCell ⟨hb, 1, none⟩ (.int .i64 nh)).drew hb [.int .i64 lo, .int .i64 nh]) := Lib.hid ((blk_set BL6.out 1 (.int .i64 nh)).below (brefl _).drew)
                have N7 : Hid (Blk (w6.setCell ⟨hb, 1, none⟩ (.int .i64 nh)).drew w.heap.size [.int .i64 0, .int .i64 0]) := Lib.hid ((blk_other N6.out (Nat.ne_of_lt lt.out) 1 (.int .i64 nh)).below (brefl _).drew)
                have B7 : Hid (Below w.heap.size w (w6.setCell ⟨hb, 1, none⟩ (.int .i64 nh)).drew) := Lib.hid (bstep (below_set B6.out (Nat.le_of_lt lt.out) 1 (.int .i64 nh)) (brefl _).drew)
                go_upto_region 16 with fail
                go_region
                generalize (w6.setCell ⟨hb, 1, none⟩ (.int .i64 nh)).drew = w7 at *
                go_wp2_with fail
                exact ⟨⟨k + 1, _, _, _, by omega, by go_num, rfl, LO2.out, HI2.out, BL7.out, N7.out, B7.out⟩, by simp [intOf]; omega⟩
              · have d3 := decide_eq_false q1
                have HI2 := Lib.hid (HHI.out.no HX.out (fun q => q1 (CB.out.1 q)))
                go_wp2_with fail
                exact ⟨⟨k + 1, _, _, _, by omega, by go_num, rfl, LO2.out, HI2.out, BL6.out, N6.out, B6.out⟩, by simp [intOf]; omega⟩
          · have e1 : decide ((k : Int) < (m : Int)) = false := decide_eq_false (by omega)
            have e2 : decide (k < m) = false := decide_eq_false c
            obtain rfl : k = m := by omega
            have LE := HLO.out
            have HE := HHI.out
            rw [← HM.out] at LE HE
            cases b with
            | false =>
              have AE := Lib.hid (huA_none OK.out gl.out (LE.none gl.out))
              have S2 := Lib.hid (blk_set (blk_set N3.out 0 (.int .i64 0)) 1 (.int .i64 0))
              have B2 := Lib.hid (below_set (below_set HB.out (Nat.le_refl w.heap.size) 0 (.int .i64 0)) (Nat.le_refl w.heap.size) 1 (.int .i64 0))
              obtain ⟨z0, z1⟩ := blk2 N3.out (brefl _)
              have f0 := (N3.out.2 0 _ rfl).2
              have f1 := (N3.out.2 1 _ rfl).2
              clear LE HE
              go_wp2_with fail
              exact bodyPost_ret (v := .tuple #[.agg #[.int .i64 0, .int .i64 0], .int .i64 60]) (RZ.out _ 0 0 60 S2.out AE.out _ rfl rfl) rfl ⟨(huE_at AE.out).symm, B2.out⟩
            | true =>
              have AE := Lib.hid (huA_some OK.out gl.out (LE.hull gl.out OK.out.1 HE))
              have S2 := Lib.hid (blk_set (blk_set N3.out 0 (.int .i64 lo)) 1 (.int .i64 hi))
              have B2 := Lib.hid (below_set (below_set HB.out (Nat.le_refl w.heap.size) 0 (.int .i64 lo)) (Nat.le_refl w.heap.size) 1 (.int .i64 hi))
              obtain ⟨z0, z1⟩ := blk2 N3.out (brefl _)
              obtain ⟨p0, p1⟩ := blk2 BL.out (brefl _)
              have f0 := (N3.out.2 0 _ rfl).2
              have f1 := (N3.out.2 1 _ rfl).2
              clear LE HE
              go_wp2_with fail
              exact bodyPost_ret (v := .tuple #[.agg #[.int .i64 lo, .int .i64 hi], .int .i64 0]) (RZ.out _ lo hi 0 S2.out AE.out _ rfl rfl) rfl ⟨(huE_at AE.out).symm, B2.out⟩
  · rw [decide_eq_false ok] at CK
    have AE := Lib.hid (huA_shape (f := f) ok)
    rw [hm]
    rw [hm] at CK
    clear ok hm
    go_enter Try.func9, Try.ntmps9
    go_wp2_with fail
    refine CK.out.mono ?_
    rintro e w1 ⟨rfl, hb⟩
    have B1 := Lib.hid (bstep B0.out hb)
    have N1 := Lib.hid (N0.out.below hb)
    clear hb N0 B0 CK
    have S2 := Lib.hid (blk_set (blk_set N1.out 0 (.int .i64 0)) 1 (.int .i64 0))
    have B2 := Lib.hid (below_set (below_set B1.out (Nat.le_refl w.heap.size) 0 (.int .i64 0)) (Nat.le_refl w.heap.size) 1 (.int .i64 0))
    obtain ⟨z0, z1⟩ := blk2 N1.out (brefl _)
    have f0 := (N1.out.2 0 _ rfl).2
    have f1 := (N1.out.2 1 _ rfl).2
    go_wp2_with fail
    exact bodyPost_ret (v := .tuple #[.agg #[.int .i64 0, .int .i64 0], .int .i64 3]) (RZ.out _ 0 0 3 S2.out AE.out _ rfl rfl) rfl ⟨(huE_at AE.out).symm, B2.out⟩
end Go.Proofs.Ytppflfodkhhfhaa.Hu
