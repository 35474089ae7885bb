/-
  The program's guard in memory; its verdicts; rules asked whether they are right; slices cloned; how a guard is made.
  Conditions: none but those of each theorem.
-/
import Derived.Test.YtdngoopogajhiaaGuE
import Derived.Test.YtdngoopogajhiaaGuH
import Derived.Lib.SliceRun
namespace Go.Proofs.Ytdngoopogajhiaa.Gu
open Go.RowKit Go.ChangeShapes Go.WideShapes Go.ChangeAt Go.Joins Fl
set_option linter.unusedVariables false
set_option linter.unusedSimpArgs false

/-- in these cells, from o on, lie these hosts. -/
def Tb (V : List Value) (H : List Ho) : Prop := ∀ j s, H[j]? = some s → ∀ i v, (hvs s)[i]? = some v → V[1 + (j * 4 + i)]? = some v
/-- the program's guard lies in block b: its rules, its hosts. -/
def PM (w : World) (b : Nat) (Z : Nat → Prop) (R : List Ru) (H : List Ho) : Prop :=
  ∃ V rv, V.length = 66 ∧ (∀ v ∈ V, v.oneCell' = true) ∧ Blk w b V ∧ V[0]? = some rv ∧ V[65]? = some (.int .i64 (H.length : Nat)) ∧ H.length ≤ 16 ∧ Tb V H ∧ Gn.Ss rvs 3 w rv R ∧ Z b ∧ (∀ g, rv.ownBlock = some g → Z g ∧ g ≠ b) ∧ (∀ i, Z i → i < w.heap.size)
theorem PM.keep {w w' : World} {b : Nat} {Z Y : Nat → Prop} {R : List Ru} {H : List Ho} (h : PM w b Z R H) (q : Tu Y w w') (d : ∀ i, Z i → ¬ Y i) : PM w' b Z R H := by
  obtain ⟨V, rv, h1, h2, h3, h4, h5, h6, h7, h8, h9, h10, h11⟩ := h
  exact ⟨V, rv, h1, h2, blk_keep h3 (q.block b h3.1 (d b h9)) q.size, h4, h5, h6, h7, ss_keep h8 (fun g hg hl => q.block g hl (d g (h10 g hg).1)) q.size, h9, h10, fun i hi => Nat.lt_of_lt_of_le (h11 i hi) q.size⟩
theorem PM.below {w w' : World} {b : Nat} {Z : Nat → Prop} {R : List Ru} {H : List Ho} (h : PM w b Z R H) (q : Below w.heap.size w w') : PM w' b Z R H := h.keep (Y := fun _ => False) (tu_below q) (fun _ _ z => z)
/-- what the text's PC is about. -/
def Kz (w : World) (a : Addr) (X : Nat → Prop) (G : Gd) : Prop := ∃ b, a = ⟨b, 0, none⟩ ∧ PM w b X G.rules G.hosts ∧ (G.hosts = [] → G.last = 0) ∧ ∀ h T, G.hosts = h :: T → G.last = h.last
theorem info_gd : (Try.prog.info? 67).map (·.size) = some 66 := by kernel_rfl
theorem info_pr : (Try.prog.info? 36).map (fun i => (i.zero, i.size, i.bytes)) = some (some (.agg (rvs ⟨0, 0, 0⟩).toArray), 3, 16) := by kernel_rfl
theorem info_ps : (Try.prog.info? 55).map (fun i => (i.zero, i.size, i.bytes)) = some (some (.agg (hvs ⟨0, 0, 0, 0⟩).toArray), 4, 32) := by kernel_rfl
/-- a slice that is there, appended to an empty one. -/
theorem clone_run {α : Type} {enc : α → List Value} {k : Nat} (hk : Gn.Ok enc k) {t ts : TypeId} (hts : Try.prog.underlying ts = some (.slice t)) {z : Value} {bs : Nat} (hi : (Try.prog.info? t).map (fun i => (i.zero, i.size, i.bytes)) = some (some z, k, bs)) (hz : z.cells.size = k) {w : World} {ad : Addr} {cap : Nat} {L : List α} (h : Gn.Ss enc k w (.slice (some ad) L.length cap) L) (hn : L.length * bs ≤ 140737488355328) (hn2 : L.length ≤ maxLen) :
    ∃ v' w', (Builtin.append_ #[ts, ts] ts #[.slice (some ⟨w.heap.size, 0, none⟩) 0 0, .slice (some ad) L.length cap]).run Try.prog (w.alloc (.cells #[] t)) = .ok v' w' ∧ Gn.Own t enc k w' w.heap.size v' L ∧ Below w.heap.size w w' := by
  obtain ⟨i, hi, hz', hs, hby⟩ := info_parts3L hi
  have BA := balloc (brefl w) (.cells #[] t)
  have hcell : ∀ j u, (Gn.rc enc L)[j]? = some u → (w.alloc (.cells #[] t)).cell? (ad.add j) = some u := by
    intro j u hj
    have jl : j < L.length * k := by have := (List.getElem?_eq_some_iff.1 hj).1; rwa [Gn.rc_len hk] at this
    have hp : 0 < L.length := Nat.pos_of_ne_zero fun h => by rw [h, Nat.zero_mul] at jl; omega
    obtain ⟨_, _, e, _, _, hB⟩ := h
    obtain ⟨b, off, ea, B⟩ := hB hp
    cases e
    cases ea
    rw [add_plain, BA.cell B.1]
    have d1 : j / k < L.length := Nat.div_lt_of_lt_mul (by rw [Nat.mul_comm]; exact jl)
    have d2 : j % k < k := Nat.mod_lt _ hk.pos
    have d3 : j / k * k + j % k = j := by rw [Nat.mul_comm]; exact Nat.div_add_mod j k
    have q := Gn.rc_at hk L (j / k) _ (List.getElem?_eq_getElem d1) (j % k) d2
    rw [d3] at q
    have := B.2 (j / k) _ (List.getElem?_eq_getElem d1) (j % k) u (q ▸ hj)
    rwa [Nat.add_assoc, d3] at this
  have O0 : (w.alloc (.cells #[] t)).ownsRow w.heap.size t k (.slice (some ⟨w.heap.size, 0, none⟩) 0 0) 0 [] := ⟨by simp, .inr ⟨w.heap.size, 0, #[], rfl, Nat.le_refl _, heap_alloc_new w _, Nat.le_refl _, by unfold maxLen; omega, by simp, by simp⟩⟩
  obtain ⟨v', w', hr, ho, hg, _, _⟩ := run_append_own_at (P := Try.prog) (w.alloc (.cells #[] t)) w.heap.size ts ts t i z k bs hts hi hz' hs hby hz hk.pos _ 0 [] O0 ad L.length cap (Gn.rc enc L) (Gn.rc_len hk L) hcell (Gn.rc_one hk L) (by rw [Nat.zero_add]; exact hn2) (by rw [Nat.zero_add]; exact hn) (by simp)
  rw [Nat.zero_add, List.nil_append] at ho
  exact ⟨v', w', hr, ho, BA.grown hg (by simp) (fun k hk => (O0.lt k hk).1)⟩

set_option maxRecDepth 100000 in
set_option maxHeartbeats 4000000 in
theorem CloneR_c {w : World} {v : Value} {L : List Ru} (h : Gn.Ss rvs 3 w v L) (hn : L.length ≤ 1000) : Calls Try.prog 18 #[v] w fun e w' => (∃ u, e = .returned u ∧ Gn.Own 36 rvs 3 w' w.heap.size u L) ∧ Below w.heap.size w w' := by
  have HS := Lib.hid h
  obtain ⟨a, cap, rfl, hc, hc2, hB⟩ := h
  cases a with
  | none =>
    have h0 : L.length = 0 := Nat.eq_zero_of_not_pos fun hp => by obtain ⟨b, off, e, _⟩ := hB hp; cases e
    have e0 : L = [] := List.eq_nil_of_length_eq_zero h0
    subst e0
    simp only [List.length_nil]
    have EQ : (binOp .eql 25 (.slice none 0 cap) (.slice none 0 0)).run Try.prog w = .ok (.bool true) w := Lib.run_eql_slice_nil w _ _ none 0 cap 0 0 Try.underlying25
    clear hB HS
    go_enter Try.func18, Try.ntmps18
    go_wp2_with fail
    go_ret
    exact ⟨⟨_, rfl, Gn.Own.nil _ _⟩, brefl w⟩
  | some ad =>
    obtain ⟨v', w', hr, ho, hb⟩ := clone_run okr (ts := 25) Try.underlying25 info_pr rfl HS.out (by omega) (by unfold maxLen; omega)
    have O2 := Lib.hid ho
    have BB := Lib.hid hb
    have EQ : (binOp .eql 25 (.slice (some ad) L.length cap) (.slice none 0 0)).run Try.prog w = .ok (.bool false) w := Lib.run_eql_slice_nil w _ _ (some ad) L.length cap 0 0 Try.underlying25
    clear hB HS ho hb
    go_enter Try.func18, Try.ntmps18
    go_wp2_with (first | (at_builtin; refine wpList_append_eqL rfl _ _ 25 rfl _ _ v' w' rfl rfl hr ?_))
    go_ret
    exact ⟨⟨_, rfl, O2.out⟩, BB.out⟩

set_option maxRecDepth 100000 in
set_option maxHeartbeats 4000000 in
theorem CloneS_c {w : World} {v : Value} {L : List Ho} (h : Gn.Ss hvs 4 w v L) (hn : L.length ≤ 1000) : Calls Try.prog 25 #[v] w fun e w' => (∃ u, e = .returned u ∧ Gn.Own 55 hvs 4 w' w.heap.size u L) ∧ Below w.heap.size w w' := by
  have HS := Lib.hid h
  obtain ⟨a, cap, rfl, hc, hc2, hB⟩ := h
  cases a with
  | none =>
    have h0 : L.length = 0 := Nat.eq_zero_of_not_pos fun hp => by obtain ⟨b, off, e, _⟩ := hB hp; cases e
    have e0 : L = [] := List.eq_nil_of_length_eq_zero h0
    subst e0
    simp only [List.length_nil]
    have EQ : (binOp .eql 47 (.slice none 0 cap) (.slice none 0 0)).run Try.prog w = .ok (.bool true) w := Lib.run_eql_slice_nil w _ _ none 0 cap 0 0 Try.underlying47
    clear hB HS
    go_enter Try.func25, Try.ntmps25
    go_wp2_with fail
    go_ret
    exact ⟨⟨_, rfl, Gn.Own.nil _ _⟩, brefl w⟩
  | some ad =>
    obtain ⟨v', w', hr, ho, hb⟩ := clone_run okh (ts := 47) Try.underlying47 info_ps rfl HS.out (by omega) (by unfold maxLen; omega)
    have O2 := Lib.hid ho
    have BB := Lib.hid hb
    have EQ : (binOp .eql 47 (.slice (some ad) L.length cap) (.slice none 0 0)).run Try.prog w = .ok (.bool false) w := Lib.run_eql_slice_nil w _ _ (some ad) L.length cap 0 0 Try.underlying47
    clear hB HS ho hb
    go_enter Try.func25, Try.ntmps25
    go_wp2_with (first | (at_builtin; refine wpList_append_eqL rfl _ _ 47 rfl _ _ v' w' rfl rfl hr ?_))
    go_ret
    exact ⟨⟨_, rfl, O2.out⟩, BB.out⟩

theorem bne_of {x : Int} {b : Bool} (h : (x != 0) = b) : (x == 0) = !b := by
  rw [← h]
  unfold bne
  rw [Bool.not_not]
theorem beq_of {x : Int} {b : Bool} (h : (x == 0) = b) : (x != 0) = !b := by
  unfold bne
  rw [h]
set_option maxRecDepth 100000 in
set_option maxHeartbeats 4000000 in
theorem timeVerdict_c (f : Int) (q : Bool) (w : World) (hf : 0 ≤ f ∧ f ≤ 127) : Calls Try.prog 30 #[.int .i64 f, .bool q] w fun e w' => e = .returned (.int .i64 (tv f q)) ∧ w' = w := by
  obtain ⟨_, h2, _, h32, h64⟩ := hbs hf
  have g2 := bne_of h2
  have g32 := bne_of h32
  have g64 := bne_of h64
  unfold tv
  generalize hasF f 2 = b2 at *
  generalize hasF f 32 = b32 at *
  generalize hasF f 64 = b64 at *
  clear hf
  cases b2 <;> cases b32 <;> cases b64 <;> cases q <;>
    (go_enter Try.func30, Try.ntmps30
     go_wp2_with fail
     go_ret
     exact ⟨rfl, rfl⟩)
set_option maxRecDepth 100000 in
set_option maxHeartbeats 4000000 in
theorem verdict_c (f m : Int) (q : Bool) (w : World) (hf : 0 ≤ f ∧ f ≤ 127) (hm : 0 ≤ m ∧ m ≤ 7) : Calls Try.prog 21 #[.int .i64 f, .int .i64 m, .bool q] w fun e w' => e = .returned (.int .i64 (vd f m q)) ∧ w' = w := by
  obtain ⟨h1, _, h4, _, _⟩ := hbs hf
  have g1 := bne_of h1
  have g4 := beq_of h4
  have TV := Lib.hid (timeVerdict_c f q w hf)
  by_cases c1 : hasF f 1 = true
  · rw [show vd f m q = 1 by unfold vd; rw [if_pos (.inl c1)]]
    rw [c1] at h1 g1
    clear TV h4 g4 hf
    go_enter Try.func21, Try.ntmps21
    go_wp2_with fail
    go_ret
    exact ⟨rfl, rfl⟩
  · have c1' : hasF f 1 = false := by simpa using c1
    rw [c1'] at h1 g1
    by_cases c5 : 1 ≤ m ∧ m ≤ 5
    · have e1 : decide (1 ≤ m) = true := decide_eq_true c5.1
      have e2 : decide (m ≤ 5) = true := decide_eq_true c5.2
      have EV : vd f m q = tv f q := by
        unfold vd tv
        rw [if_neg (fun z => z.elim c1 (fun z => by omega)), if_neg (by omega)]
      rw [EV]
      clear EV h4 g4 hf c1 c1'
      generalize tv f q = z at TV ⊢
      go_enter Try.func21, Try.ntmps21
      go_wp2_with fail
      refine TV.out.mono ?_
      rintro e w1 ⟨rfl, rfl⟩
      go_wp2_with fail
      go_ret
      exact ⟨rfl, rfl⟩
    · clear TV
      by_cases c6 : m = 6
      · subst c6
        by_cases c4 : hasF f 4 = true
        · rw [c4] at h4 g4
          rw [show vd f 6 q = 1 by unfold vd; rw [if_neg (fun z => z.elim c1 (fun z => by omega)), if_pos rfl, if_pos c4]]
          clear hf c1 c1' c4
          go_enter Try.func21, Try.ntmps21
          go_wp2_with fail
          go_ret
          exact ⟨rfl, rfl⟩
        · have c4' : hasF f 4 = false := by simpa using c4
          rw [c4'] at h4 g4
          rw [show vd f 6 q = 0 by unfold vd; rw [if_neg (fun z => z.elim c1 (fun z => by omega)), if_pos rfl, if_neg c4]]
          clear hf c1 c1' c4 c4'
          go_enter Try.func21, Try.ntmps21
          go_wp2_with fail
          go_ret
          exact ⟨rfl, rfl⟩
      · have c07 : m = 0 ∨ m = 7 := by omega
        rw [show vd f m q = 1 by unfold vd; rw [if_pos (.inr c07)]]
        clear h4 g4 hf c1 c1' c6
        rcases c07 with rfl | rfl <;>
          (go_enter Try.func21, Try.ntmps21
           go_wp2_with fail
           go_ret
           exact ⟨rfl, rfl⟩)
set_option maxRecDepth 100000 in
set_option maxHeartbeats 2000000 in
/-- a rule asked whether it is wrong. -/
theorem wrong_c (r : Ru) (w : World) (hu : uR r) : Calls Try.prog 28 #[.agg #[.int .u32 r.addr, .int .u32 r.mask, .int .i64 r.flags]] w fun e w' => e = .returned (.bool (!decide (okR r))) ∧ Below w.heap.size w w' := by
  have BI := bad_iff hu
  have B0 := Lib.hid (balloc (brefl w) (.cells #[.int .u32 r.addr, .int .u32 r.mask, .int .i64 r.flags] 36))
  unfold badR at BI
  obtain ⟨z, hz⟩ : ∃ z, (!decide (okR r)) = z := ⟨_, rfl⟩
  have HZ : Hid (z = true ↔ bits BinOp.andNot IntKind.u32 r.addr r.mask ≠ 0 ∨ r.flags < 0 ∨ 127 < r.flags) := Lib.hid (by rw [← hz, BI]; simp)
  rw [hz]
  clear hz BI hu
  obtain ⟨a, m, f⟩ := r
  simp only at HZ B0 ⊢
  by_cases c0 : bits BinOp.andNot IntKind.u32 a m = 0
  · have e0 : (bits BinOp.andNot IntKind.u32 a m != 0) = false := by rw [c0]; rfl
    by_cases c1 : f < 0
    · have e1 := decide_eq_true c1
      obtain rfl : z = true := HZ.out.2 (.inr (.inl c1))
      clear HZ c0
      go_enter Try.func28, Try.ntmps28
      go_wp2_with fail
      go_ret
      exact ⟨rfl, B0.out⟩
    · have e1 := decide_eq_false c1
      by_cases c2 : 127 < f
      · have e2 := decide_eq_true c2
        obtain rfl : z = true := HZ.out.2 (.inr (.inr c2))
        clear HZ c0
        go_enter Try.func28, Try.ntmps28
        go_wp2_with fail
        go_ret
        exact ⟨rfl, B0.out⟩
      · have e2 := decide_eq_false c2
        obtain rfl : z = false := by
          cases z with
          | false => rfl
          | true => exact absurd (HZ.out.1 rfl) (by omega)
        clear HZ c0
        go_enter Try.func28, Try.ntmps28
        go_wp2_with fail
        go_ret
        exact ⟨rfl, B0.out⟩
  · have e0 : (bits BinOp.andNot IntKind.u32 a m != 0) = true := by simpa using c0
    obtain rfl : z = true := HZ.out.2 (.inl c0)
    clear HZ c0
    go_enter Try.func28, Try.ntmps28
    go_wp2_with fail
    go_ret
    exact ⟨rfl, B0.out⟩
set_option maxRecDepth 100000 in
set_option maxHeartbeats 4000000 in
theorem indexR_c {w : World} {v : Value} {R : List Ru} (h : Gn.Ss rvs 3 w v R) (hu : ∀ r ∈ R, uR r) : Calls Try.prog 31 #[v, .func (.func 28) #[] #[]] w fun e w' => (∃ z : Int, e = .returned (.int .i64 z) ∧ (decide (0 ≤ z) = true ∧ ¬ (∀ r ∈ R, okR r) ∨ decide (0 ≤ z) = false ∧ (∀ r ∈ R, okR r))) ∧ Below w.heap.size w w' := by
  have HS := Lib.hid h
  have HU := Lib.hid hu
  obtain ⟨ra, rc, rfl, c1, c2, _⟩ := h
  obtain ⟨m, hm⟩ : ∃ m, R.length = m := ⟨_, rfl⟩
  have HM := Lib.hid hm
  rw [hm] at HS c1 ⊢
  have m0 : (0 : Int) ≤ (m : Int) := by omega
  have m2 : (m : Int) ≤ (rc : Int) := by omega
  have m3 : (rc : Int) ≤ 9223372036854775807 := by omega
  clear hm hu
  go_enter Try.func31, Try.ntmps31
  go_wp2_with fail
  go_loopw [5, 8] (fun _ i wr => ∃ k : Nat, k ≤ m ∧ i = .int .i64 k ∧ (∀ j x, j < k → R[j]? = some x → okR x) ∧ Below w.heap.size w wr) (fun _ i _ => m - (intOf i).toNat)
  case atStart => exact ⟨0, Nat.zero_le _, rfl, fun j _ hj => absurd hj (Nat.not_lt_zero _), brefl w⟩
  case round =>
    obtain ⟨k, hk, rfl, hno, hb⟩ := hrel
    rename World => wr
    have NO := Lib.hid hno
    have BB := Lib.hid hb
    clear hno hb
    by_cases c : k < m
    · have e0 : decide ((k : Int) < (m : Int)) = true := decide_eq_true (by omega)
      have k0 : (0 : Int) ≤ (k : Int) := by omega
      have k1 : (k : Int) < (m : Int) := by omega
      have wk : IntKind.i64.wrap ((k : Int) + 1) = (k : Int) + 1 := wrap_in (by omega) (by omega)
      obtain ⟨x, hx⟩ : ∃ x, R[k]? = some x := ⟨_, List.getElem?_eq_getElem (by rw [HM.out]; exact c)⟩
      have HX := Lib.hid hx
      have WR := Lib.hid (wrong_c x wr (HU.out x (List.mem_of_getElem? hx)))
      obtain ⟨bb, off, rfl, hbb, hR⟩ := (HS.out.below BB.out).at hx
      have y0 := hR 0 _ rfl
      have y1 := hR 1 _ rfl
      have y2 := hR 2 _ rfl
      rw [Nat.add_zero] at y0
      clear hR hx
      obtain ⟨xa, xm, xf⟩ := x
      simp only at y0 y1 y2
      obtain ⟨o, ho⟩ : ∃ o : Bool, (!decide (okR ⟨xa, xm, xf⟩)) = o := ⟨_, rfl⟩
      rw [ho] at WR
      have HO := Lib.hid ho
      clear ho
      go_wp2_with fail
      refine WR.out.mono ?_
      rintro e w3 ⟨rfl, hb⟩
      have B3 := Lib.hid (bstep BB.out hb)
      clear hb WR y0 y1 y2
      cases o with
      | true =>
        have NA : Hid (¬ ∀ r ∈ R, okR r) := Lib.hid fun q => by
          have := q _ (List.mem_of_getElem? HX.out)
          have h := HO.out
          rw [decide_eq_true this] at h
          cases h
        have kk : decide (0 ≤ (k : Int)) = true := decide_eq_true k0
        go_wp2_with fail
        go_ret
        exact ⟨⟨_, rfl, .inl ⟨kk, NA.out⟩⟩, B3.out⟩
      | false =>
        have YE : Hid (∀ j x, j < k + 1 → R[j]? = some x → okR x) := Lib.hid fun j x hj hx => by
          rcases Nat.lt_succ_iff_lt_or_eq.1 hj with z | rfl
          · exact NO.out j x z hx
          · rw [HX.out] at hx
            cases hx
            have h := HO.out
            simpa using h
        go_wp2_with fail
        go_roundw
        case rel => exact ⟨k + 1, by omega, by go_num, YE.out, B3.out⟩
        case measure => simp [intOf]; omega
    · have e0 : decide ((k : Int) < (m : Int)) = false := decide_eq_false (by omega)
      obtain rfl : k = m := by omega
      have AL : Hid (∀ r ∈ R, okR r) := Lib.hid fun r hr => by
        obtain ⟨j, hj⟩ := List.mem_iff_getElem?.1 hr
        exact NO.out j r (by rw [← HM.out]; exact (List.getElem?_eq_some_iff.1 hj).1) hj
      go_wp2_with fail
      go_ret
      exact ⟨⟨_, rfl, .inr ⟨by decide, AL.out⟩⟩, BB.out⟩
set_option maxRecDepth 100000 in
set_option maxHeartbeats 2000000 in
theorem allRight_c {w : World} {v : Value} {R : List Ru} (h : Gn.Ss rvs 3 w v R) (hu : ∀ r ∈ R, uR r) : Calls Try.prog 17 #[v] w fun e w' => e = .returned (.bool (decide (∀ r ∈ R, okR r))) ∧ Below w.heap.size w w' := by
  have IX := Lib.hid (fun W (q : Below w.heap.size w W) => indexR_c (h.below q) hu)
  have CF0 : ∀ o : Bool, (o = decide (∀ r ∈ R, okR r)) → Hid (∀ W, Below w.heap.size w W → Calls Try.prog 27 #[v, .func (.func 28) #[] #[]] W fun e w' => e = .returned (.bool (!o)) ∧ Below W.heap.size W w') := fun o ho => Lib.hid fun W q => by
    have HO := Lib.hid ho
    clear ho
    go_enter Try.func27, Try.ntmps27
    go_wp2_with fail
    refine (IX.out W q).mono ?_
    rintro e w3 ⟨⟨z, rfl, hz⟩, hb⟩
    have B3 := Lib.hid hb
    clear hb IX
    rcases hz with ⟨z0, hz⟩ | ⟨z0, hz⟩
    · obtain rfl : o = false := by rw [HO.out, decide_eq_false hz]
      clear hz HO
      go_wp2_with fail
      go_ret
      exact ⟨rfl, B3.out⟩
    · obtain rfl : o = true := by rw [HO.out, decide_eq_true hz]
      clear hz HO
      go_wp2_with fail
      go_ret
      exact ⟨rfl, B3.out⟩
  have CF := CF0 _ rfl
  clear h hu IX CF0
  generalize decide (∀ r ∈ R, okR r) = o at *
  go_enter Try.func17, Try.ntmps17
  go_wp2_with fail
  refine (CF.out w (brefl w)).mono ?_
  rintro e w3 ⟨rfl, hb⟩
  have B3 := Lib.hid hb
  clear hb CF
  cases o <;> (go_wp2_with fail; go_ret; exact ⟨rfl, B3.out⟩)
end Go.Proofs.Ytdngoopogajhiaa.Gu
