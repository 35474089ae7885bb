/-
  sundiallaw02.OscSplits: the walk.
  Conditions: none.
-/
import Derived.Test.YthdkkcibomigcaaOscI
import Derived.Deep.CutRange
import Derived.Deep.RegionHeld3
import Derived.Deep.DrawnRows
namespace Go.Proofs.Ythdkkcibomigcaa.oscSplits
open Go.RowKit Fx
set_option linter.unusedVariables false
attribute [local go_sem ↓] Go.wp_at_zero Go.wp_at_succ

theorem info_leg : (Try.prog.info? 45).map (fun i => (i.zero, i.size, i.bytes)) = some (some (.agg #[.int .i64 0, .int .i64 0]), 2, 16) := by kernel_rfl

theorem hpA (w : World) (E : Obj) : (w.alloc E).heap[w.heap.size]? = some E := heap_alloc_new w E
theorem hpB0 (w : World) (E F : Obj) : ((w.alloc E).alloc F).heap[w.heap.size]? = some E := (Below.heap_alloc (w.alloc E) F _ (by simp)).trans (hpA w E)
theorem hpB1 (w : World) (E F : Obj) : ((w.alloc E).alloc F).heap[w.heap.size + 1]? = some F := by
  have h := hpA (w.alloc E) F
  rwa [show (w.alloc E).heap.size = w.heap.size + 1 from by simp] at h
theorem szB (w : World) (E F : Obj) : w.heap.size ≤ ((w.alloc E).alloc F).drew.heap.size := by
  have h := (balloc (balloc (brefl w) E) F).size
  exact h
theorem blB (w : World) (E F : Obj) : Below w.heap.size w ((w.alloc E).alloc F).drew := (balloc (balloc (brefl w) E) F).drew
theorem blB' (w : World) (E F : Obj) : Below w.heap.size w ((w.alloc E).alloc F) := balloc (balloc (brefl w) E) F
/-- an empty slice literal is the call's own. -/
theorem own_lit {base : Nat} (w : World) (H : Nat) (hH : w.heap.size = H) (hb : base ≤ w.heap.size) : (w.alloc (.cells #[] 45)).ownsRow base 45 2 (.slice (some ⟨H, 0, none⟩) 0 0) 0 [] := by
  subst hH
  exact World.ownsRow_lit w #[] 0 hb (Nat.zero_le _) rfl
theorem own_heap {base : Nat} {w : World} {H : Nat} (hb : base ≤ H) (h : w.heap[H]? = some (.cells #[] 45 (0, 0))) : w.ownsRow base 45 2 (.slice (some ⟨H, 0, none⟩) 0 0) 0 [] :=
  ⟨rfl, .inr ⟨H, 0, #[], rfl, hb, h, Nat.le_refl _, Nat.zero_le _, rfl, rfl⟩⟩
theorem drew_heap (w : World) : w.drew.heap = w.heap := rfl
theorem heap_at (w : World) (o : Obj) (H : Nat) (hH : w.heap.size = H) : (w.alloc o).heap[H]? = some o := by
  subst hH
  exact heap_alloc_new w o

theorem wrap_in {x : Int} (h1 : -9223372036854775808 ≤ x) (h2 : x ≤ 9223372036854775807) : IntKind.i64.wrap x = x := by
  simp only [IntKind.wrap_i64]; omega

/-- the way with leg i cut in two lies there, whole. -/
theorem cut_done {X Y : Nat → Int} {n i m : Nat} {w2 wc w3 : World} {v v3 : Value} (hi : i < n) (hm : m = n - (i + 1))
    (h : wc.ownsRow w2.heap.size 45 2 v (i + 2) (rowC X Y 0 i ++ [.int .i64 (X i / 3), .int .i64 (Y i), .int .i64 (X i - X i / 3), .int .i64 (Y i)])) (hb : Below w2.heap.size w2 wc)
    (h3 : w3.ownsRow w2.heap.size 45 2 v3 (i + 2 + m) ((rowC X Y 0 i ++ [.int .i64 (X i / 3), .int .i64 (Y i), .int .i64 (X i - X i / 3), .int .i64 (Y i)]) ++ rowC X Y (i + 1) m)) (hg : wc.grownBy w3 v.ownBlock) :
    ∃ g c, v3 = .slice (some ⟨g, 0, none⟩) (n + 1) c ∧ Legs w3 g 0 (n + 1) (cutX X i) (cutY Y i) ∧ Below w2.heap.size w2 w3 := by
  subst hm
  rw [show i + 2 + (n - (i + 1)) = n + 1 by omega] at h3
  obtain ⟨g, c, rfl, _, hlt⟩ := h3.form (by omega)
  refine ⟨g, c, rfl, ⟨hlt, fun j hj => ?_⟩, hb.grown hg hb.size (fun k hk => (h.lt k hk).1)⟩
  obtain ⟨c0, c1⟩ := cut_cells X Y n i hi j hj
  rw [Nat.zero_add]
  exact ⟨(h3.cellAt (j * 2) (by omega)).trans c0, (h3.cellAt (j * 2 + 1) (by omega)).trans c1⟩

theorem sumTo_mono {n : Nat} {X Y : Nat → Int} (h : okW n X Y) (j : Nat) : ∀ k, j ≤ k → k ≤ n → sumTo X j ≤ sumTo X k := by
  intro k hj hk
  induction k with
  | zero => obtain rfl : j = 0 := by omega
            exact Int.le_refl _
  | succ k ih =>
    by_cases c : j = k + 1
    · subst c; exact Int.le_refl _
    · have a := ih (by omega) (by omega)
      have b := (h k (by omega)).1.1
      rw [sumTo_succ]; omega

theorem nat_lt {q : Int} {n : Nat} (h1 : 0 ≤ q) (h2 : q < n) : q.toNat < n := by omega
theorem nat_val {q : Int} (h1 : 0 ≤ q) : Value.int IntKind.i64 q = .int .i64 ((q.toNat : Nat) : Int) := val_i64 (by omega)

set_option maxRecDepth 100000 in
set_option maxHeartbeats 4000000 in
theorem walk_b (b off n cap : Nat) (X Y : Nat → Int) (at' lo hi d more rho : Int) (w : World) (h : Legs w b off n X Y) (h0 : 0 < n) (hc : n ≤ cap) (hcap : cap ≤ 9223372036854775807) (hsz : n * 16 ≤ 140737488351232) (hok : okW n X Y) :
    Calls Try.prog 6 #[.slice (some ⟨b, off, none⟩) n cap, .int .i64 at', .agg #[.int .i64 lo, .int .i64 hi], .int .i64 d, .int .i64 more, .int .i64 rho] w fun e w' => e = .returned (.bool true) ∧ Below w.heap.size w w' := by
  have L := Lib.hid h
  have C := Lib.hid hok
  have z0 : ((n : Int) == 0) = false := by simp; omega
  have z1 : decide (0 < (n : Int)) = true := by rw [decide_eq_true_iff]; omega
  obtain ⟨i0, hi0, hz0, hz1, hz2⟩ := info_parts info_leg
  clear h hok
  go_enter Try.func6, Try.ntmps6
  go_wp2_with fail
  refine (awake2_c _).mono ?_
  rintro e w1 ⟨rfl, hb⟩
  have A := Lib.hid ((Sq.new w lo hi).below hb)
  have HB := Lib.hid (bstep (balloc (brefl w) _) hb)
  clear hb
  go_wp2_with fail
  refine (Check_s (some ⟨b, off, none⟩) n cap X Y _ ⟨by omega, fun _ => ⟨b, off, rfl, L.out.below HB.out⟩⟩).mono ?_
  rintro e w2 ⟨ho, hb⟩
  obtain ⟨_, rfl⟩ := ho.resolve_right (fun g => absurd C.out g.1)
  have A2 := Lib.hid (A.out.below hb)
  have HB2 := Lib.hid (bstep HB.out hb)
  clear hb HB ho A
  go_upto_region 4 with fail
  go_cut [13] from 37 to 46 (fun s wr => wr = w2 ∧ ∃ i : Nat, i < n ∧ s = .int .i64 i)
  case first =>
    obtain ⟨r, er⟩ : ∃ r, Int.tmod at' n = r := ⟨_, rfl⟩
    have hr := tmod_bd (n := at') (w := n) (by omega)
    rw [er] at hr
    obtain ⟨r1, r2⟩ := hr
    have q1 := Lib.hid (And.intro (Int.emod_nonneg (r + n) (show (n : Int) ≠ 0 by omega)) (Int.emod_lt_of_pos (r + n) (show 0 < (n : Int) by omega)))
    have q2 := Lib.hid (And.intro (Int.emod_nonneg r (show (n : Int) ≠ 0 by omega)) (Int.emod_lt_of_pos r (show 0 < (n : Int) by omega)))
    by_cases c : 0 ≤ at'
    · have e2 : at' % n = r := by rw [← er, Int.tmod_eq_emod_of_nonneg c]
      go_wp2_with fail
      go_meet
      case rel => exact ⟨rfl, _, nat_lt q1.out.1 q1.out.2, nat_val q1.out.1⟩
    · go_wp2_with fail
      go_meet
      case rel => exact ⟨rfl, _, nat_lt q2.out.1 q2.out.2, nat_val q2.out.1⟩
  case rest =>
    obtain ⟨hw, i, hin, rfl⟩ := hcut
    have hw' := hw.symm
    subst hw'
    clear hw
    go_upto_region 5 with fail
    go_cut [14] from 47 to 83 (fun v wr => wr.ownsRow w2.heap.size 45 2 v (i + 2) (rowC X Y 0 i ++ [.int .i64 (X i / 3), .int .i64 (Y i), .int .i64 (X i - X i / 3), .int .i64 (Y i)]) ∧ Below w2.heap.size w2 wr)
    case first =>
      have LL := L.out.below HB2.out
      obtain ⟨g1, g2⟩ := LL.2 i hin
      have lb := LL.1
      obtain ⟨⟨r1, r2, r3, r4⟩, _⟩ := C.out i hin
      have HL := Lib.hid LL
      clear LL
      have i1 : (0 : Int) ≤ (i : Int) := Int.natCast_nonneg _
      have i2 : (i : Int) < (n : Int) := by omega
      have i3 : (i : Int) ≤ (cap : Int) := by omega
      have n1 : (n : Int) ≤ (cap : Int) := by omega
      have W1 : IntKind.i64.wrap ((X i).tdiv 3) = X i / 3 := by rw [Int.tdiv_eq_ediv_of_nonneg r1]; exact wrap_in (by omega) (by omega)
      have W2 : IntKind.i64.wrap (X i - X i / 3) = X i - X i / 3 := wrap_in (by omega) (by omega)
      go_region_held3 (fun w' => w'.cell? ⟨b, off + i * 2, none⟩ = some (.int .i64 (X i)) ∧ w'.cell? ⟨b, off + i * 2 + 1, none⟩ = some (.int .i64 (Y i)))
        (first
          | go_keep
          | (exact ⟨(hb2.cell (p := ⟨b, off + i * 2, none⟩) lb).trans g1, (hb2.cell (p := ⟨b, off + i * 2 + 1, none⟩) lb).trans g2⟩)
          | (exact ⟨(hb1.cell (p := ⟨b, off + i * 2, none⟩) lb).trans g1, (hb1.cell (p := ⟨b, off + i * 2 + 1, none⟩) lb).trans g2⟩))
        (first
          | (refine step_append_any _ (by rfl) (.tmp 47) (.tmp 50) _ (by rfl) w2.heap.size 45 i0 _ 2 16 Try.underlying22 hi0 hz0 hz1 hz2 rfl (by omega) (.slice (some ⟨w2.heap.size, 0, none⟩) 0 0) 0 [] (by rfl) (own_heap (by omega) (by (try simp only [drew_heap]); first | with_reducible exact hpA _ _ | with_reducible exact hpB0 _ _ _)) ⟨b, off, none⟩ i cap (rowC X Y 0 i) (by rfl) (rowC_len X Y 0 i) ((HL.out.below (by first | with_reducible exact (balloc (brefl w2) _).drew | with_reducible exact blB w2 _ _ | with_reducible exact blB' w2 _ _)).news 0 i (by omega)) (rowC_one X Y 0 i) (by unfold maxLen; omega) (by omega) (Below.size (by first | with_reducible exact (balloc (brefl w2) _).drew | with_reducible exact blB w2 _ _ | with_reducible exact blB' w2 _ _)) ?_; intro v1 wq hown1 hgrow1 hat1; have hb1 : Below w2.heap.size w2 wq := Below.grown (by first | with_reducible exact (balloc (brefl w2) _).drew | with_reducible exact blB w2 _ _ | with_reducible exact blB' w2 _ _) hgrow1 (Below.size (by first | with_reducible exact (balloc (brefl w2) _).drew | with_reducible exact blB w2 _ _ | with_reducible exact blB' w2 _ _)) (by intro k hk; simp [Value.ownBlock] at hk; omega))
          | (refine step_append_any _ (by rfl) (.tmp 47) (.tmp 50) _ (by rfl) w2.heap.size 45 i0 _ 2 16 Try.underlying22 hi0 hz0 hz1 hz2 rfl (by omega) (.slice (some ⟨w2.heap.size + 1, 0, none⟩) 0 0) 0 [] (by rfl) (own_heap (by omega) (by (try simp only [drew_heap]); with_reducible exact hpB1 _ _ _)) ⟨b, off, none⟩ i cap (rowC X Y 0 i) (by rfl) (rowC_len X Y 0 i) ((HL.out.below (by first | with_reducible exact (balloc (brefl w2) _).drew | with_reducible exact blB w2 _ _ | with_reducible exact blB' w2 _ _)).news 0 i (by omega)) (rowC_one X Y 0 i) (by unfold maxLen; omega) (by omega) (Below.size (by first | with_reducible exact (balloc (brefl w2) _).drew | with_reducible exact blB w2 _ _ | with_reducible exact blB' w2 _ _)) ?_; intro v1 wq hown1 hgrow1 hat1; have hb1 : Below w2.heap.size w2 wq := Below.grown (by first | with_reducible exact (balloc (brefl w2) _).drew | with_reducible exact blB w2 _ _ | with_reducible exact blB' w2 _ _) hgrow1 (Below.size (by first | with_reducible exact (balloc (brefl w2) _).drew | with_reducible exact blB w2 _ _ | with_reducible exact blB' w2 _ _)) (by intro k hk; simp [Value.ownBlock] at hk; omega))
          | (refine step_append_any _ (by rfl) (.tmp 51) (.tmp 82) _ (by rfl) w2.heap.size 45 i0 _ 2 16 Try.underlying22 hi0 hz0 hz1 hz2 rfl (by omega) v1 (0 + i) ([] ++ rowC X Y 0 i) (by rfl) (by repeat (first | with_reducible exact hown1 | with_reducible refine World.ownsRow.drew ?_ | with_reducible refine World.ownsRow.alloc ?_ _)) ⟨wq.heap.size, 0, none⟩ 2 2 [.int .i64 (X i / 3), .int .i64 (Y i), .int .i64 (X i - X i / 3), .int .i64 (Y i)] (by rfl) (by rfl) (World.news_of_block (cs := #[.int .i64 (X i / 3), .int .i64 (Y i), .int .i64 (X i - X i / 3), .int .i64 (Y i)]) (t := 45) (fr := (0, 0)) (by (try simp only [drew_heap]); with_reducible exact hpA _ _)) (by simp [Value.oneCell']) (by unfold maxLen; omega) (by omega) (by have := hb1.size; first | (simp; done) | (simp; omega) | omega) ?_; intro v2 wz hown2 hgrow2 hat2; have hb2 : Below w2.heap.size w2 wz := Below.grown (by repeat (first | with_reducible exact hb1 | with_reducible refine Below.drew ?_ | with_reducible refine balloc ?_ _)) hgrow2 (by have := hb1.size; first | (simp; done) | (simp; omega) | omega) (fun k hk => (hown1.lt k hk).1))
          | (refine step_append_any _ (by rfl) (.tmp 51) (.tmp 82) _ (by rfl) w2.heap.size 45 i0 _ 2 16 Try.underlying22 hi0 hz0 hz1 hz2 rfl (by omega) v1 (0 + i) ([] ++ rowC X Y 0 i) (by rfl) (by repeat (first | with_reducible exact hown1 | with_reducible refine World.ownsRow.drew ?_ | with_reducible refine World.ownsRow.alloc ?_ _)) ⟨w2.heap.size + 1, 0, none⟩ 2 2 [.int .i64 (X i / 3), .int .i64 (Y i), .int .i64 (X i - X i / 3), .int .i64 (Y i)] (by rfl) (by rfl) (World.news_of_block (cs := #[.int .i64 (X i / 3), .int .i64 (Y i), .int .i64 (X i - X i / 3), .int .i64 (Y i)]) (t := 45) (fr := (0, 0)) ((hgrow1.block (w2.heap.size + 1) (by simp) (by simp [Value.ownBlock])).trans (by (try simp only [drew_heap]); with_reducible exact hpB1 _ _ _))) (by simp [Value.oneCell']) (by unfold maxLen; omega) (by omega) (by have := hb1.size; first | (simp; done) | (simp; omega) | omega) ?_; intro v2 wz hown2 hgrow2 hat2; have hb2 : Below w2.heap.size w2 wz := Below.grown (by repeat (first | with_reducible exact hb1 | with_reducible refine Below.drew ?_ | with_reducible refine balloc ?_ _)) hgrow2 (by have := hb1.size; first | (simp; done) | (simp; omega) | omega) (fun k hk => (hown1.lt k hk).1))
          | (refine step_append_any _ (by rfl) (.tmp 51) (.tmp 82) _ (by rfl) w2.heap.size 45 i0 _ 2 16 Try.underlying22 hi0 hz0 hz1 hz2 rfl (by omega) v1 (0 + i) ([] ++ rowC X Y 0 i) (by rfl) (by repeat (first | with_reducible exact hown1 | with_reducible refine World.ownsRow.drew ?_ | with_reducible refine World.ownsRow.alloc ?_ _)) ⟨w2.heap.size, 0, none⟩ 2 2 [.int .i64 (X i / 3), .int .i64 (Y i), .int .i64 (X i - X i / 3), .int .i64 (Y i)] (by rfl) (by rfl) (World.news_of_block (cs := #[.int .i64 (X i / 3), .int .i64 (Y i), .int .i64 (X i - X i / 3), .int .i64 (Y i)]) (t := 45) (fr := (0, 0)) ((hgrow1.block w2.heap.size (by simp; omega) (by simp [Value.ownBlock])).trans (by (try simp only [drew_heap]); with_reducible exact hpB0 _ _ _))) (by simp [Value.oneCell']) (by unfold maxLen; omega) (by omega) (by have := hb1.size; first | (simp; done) | (simp; omega) | omega) ?_; intro v2 wz hown2 hgrow2 hat2; have hb2 : Below w2.heap.size w2 wz := Below.grown (by repeat (first | with_reducible exact hb1 | with_reducible refine Below.drew ?_ | with_reducible refine balloc ?_ _)) hgrow2 (by have := hb1.size; first | (simp; done) | (simp; omega) | omega) (fun k hk => (hown1.lt k hk).1)))
      all_goals
        go_wp2_with fail
        go_meet
        exact ⟨by simpa using hown2, hb2⟩
    case rest =>
      obtain ⟨hown, hbel⟩ := hcut
      have HB3 := Lib.hid (bstep HB2.out hbel)
      have A3 := Lib.hid (A2.out.below hbel)
      have LL := Lib.hid (L.out.below HB3.out)
      have HO := Lib.hid hown
      have HBL := Lib.hid hbel
      clear hown hbel
      go_upto_region 6 with fail
      go_cut [14] from 84 to 89 (fun v wr => ∃ g c, v = .slice (some ⟨g, 0, none⟩) (n + 1) c ∧ Legs wr g 0 (n + 1) (cutX X i) (cutY Y i) ∧ Below w2.heap.size w2 wr)
      case first =>
        have i1 : (0 : Int) ≤ (i : Int) := Int.natCast_nonneg _
        have i2 : (i : Int) + 1 ≤ (n : Int) := by omega
        have n1 : (n : Int) ≤ (cap : Int) := by omega
        have i4 : (i : Int) + 1 ≤ (cap : Int) := by omega
        by_cases ce : cap = i + 1
        · obtain rfl : n = i + 1 := by omega
          subst ce
          go_wp2_with (at_builtin; refine wpList_append_own _ rfl (.tmp 84) (.tmp 88) 22 rfl w2.heap.size 45 i0 _ 2 16 Try.underlying22 hi0 hz0 hz1 hz2 rfl (by decide) _ _ _ rfl HO.out (⟨b, off, none⟩) (0) (0) (rowC X Y (i + 1) 0) rfl (by simp [rowC_len]) (fun j u hu => by simp [rowC] at hu) (rowC_one X Y _ _) (by unfold maxLen; omega) (by omega) (HBL.out.size) ?_)
          intro v3 w3 hown3 hgrow3 _
          have R := Lib.hid (cut_done (n := i + 1) (m := 0) hin (by omega) HO.out HBL.out (by simpa using hown3) hgrow3)
          clear hown3 hgrow3
          go_wp2_with fail
          go_meet
          exact R.out
        · have ce' : (cap = i + 1) = False := eq_false ce
          have ce2 : (((cap : Int) == (i : Int) + 1)) = false := by simp; omega
          go_wp2_with (at_builtin; refine wpList_append_own _ rfl (.tmp 84) (.tmp 88) 22 rfl w2.heap.size 45 i0 _ 2 16 Try.underlying22 hi0 hz0 hz1 hz2 rfl (by decide) _ _ _ rfl HO.out (⟨b, off + (i + 1) * 2, none⟩) (n - (i + 1)) (cap - (i + 1)) (rowC X Y (i + 1) (n - (i + 1))) rfl (by simp [rowC_len]) (LL.out.news (i + 1) (n - (i + 1)) (by omega)) (rowC_one X Y _ _) (by unfold maxLen; omega) (by omega) (HBL.out.size) ?_)
          intro v3 w3 hown3 hgrow3 _
          have R := Lib.hid (cut_done (n := n) (m := n - (i + 1)) hin (by omega) HO.out HBL.out (by simpa using hown3) hgrow3)
          clear hown3 hgrow3
          go_wp2_with fail
          go_meet
          exact R.out
      case rest =>
        obtain ⟨g, c, rfl, LC, hbel⟩ := hcut
        have HB4 := Lib.hid (bstep HB2.out hbel)
        have A4 := Lib.hid (A2.out.below hbel)
        have LW := Lib.hid (L.out.below HB4.out)
        have HLC := Lib.hid LC
        clear LC hbel HB3 A3 LL HO HBL HB2 A2
        have n2 : n ≤ 9223372036854775806 := by omega
        go_wp2_with fail
        go_loop [15, 16] (fun s q => ∃ k : Nat, k ≤ i + 1 ∧ q = .int .i64 k ∧ s = .int .i64 (sumTo X k)) (fun _ q => i + 1 - (intOf q).toNat)
        case atStart => exact ⟨0, by omega, rfl, rfl⟩
        case round =>
          obtain ⟨k, hk, rfl, rfl⟩ := hrel
          obtain ⟨B1, B2⟩ := sumTo_bd C.out k (by omega)
          by_cases ck : k ≤ i
          · have e0 : decide ((k : Int) ≤ (i : Int)) = true := by rw [decide_eq_true_iff]; omega
            have k1 : (k : Int) < (n : Int) := by omega
            obtain ⟨g1, g2⟩ := LW.out.2 k (by omega)
            obtain ⟨⟨r1, r2, _, _⟩, _⟩ := C.out k (by omega)
            have S := Lib.hid (sumTo_succ X k)
            generalize sumTo X k = s at *
            generalize X k = x at *
            go_wp2_with fail
            go_round
            case rel => exact ⟨k + 1, by omega, by go_num, by rw [S.out]⟩
            case measure => simp [intOf]; omega
          · have e0 : decide ((k : Int) ≤ (i : Int)) = false := by rw [decide_eq_false_iff_not]; omega
            obtain rfl : k = i + 1 := by omega
            have SM := sumTo_mono C.out (i + 1) n (by omega) (Nat.le_refl _)
            have SC := sum_cut_gt X i n hin
            have E := fun t (ht : 0 ≤ t) => ml_cut_gt (t := t) C.out ht hin n hin (Nat.le_refl _)
            have OC := Lib.hid (okW_cut C.out hin)
            obtain ⟨s, es⟩ : ∃ s, sumTo X (i + 1) = s := ⟨_, rfl⟩
            rw [es] at B1 B2 SM ⊢
            have EE := Lib.hid (And.intro SM (And.intro SC (E (s / 2) (by omega))))
            clear es SM SC E
            go_wp2_with fail
            refine (Raw_ok b off n cap X Y (s / 2) _ (by omega) LW.out C.out (by omega) (by have := EE.out.1; omega)).mono ?_
            rintro e w4 ⟨rfl, hb⟩
            have A5 := Lib.hid (A4.out.below hb)
            have HB5 := Lib.hid (bstep HB4.out hb)
            have HL5 := Lib.hid (HLC.out.below hb)
            clear hb A4 HB4 HLC LW
            go_wp2_with fail
            refine (Raw_ok g 0 (n + 1) c (cutX X i) (cutY Y i) (s / 2) _ (by omega) HL5.out OC.out (by omega) (by rw [EE.out.2.1]; have := EE.out.1; omega)).mono ?_
            rintro e w4' ⟨rfl, hb⟩
            rw [EE.out.2.2]
            have A := Lib.hid (A5.out.below hb)
            have HB := Lib.hid (bstep HB5.out hb)
            clear hb A5 HB5 HL5 OC EE
            generalize ml X Y (s / 2) n / 1000000 = y
            go_wp2_with fail
            refine (into_c _ _ _ (by omega) (by omega)).mono ?_
            rintro e w5 ⟨⟨u, u1, u2, rfl⟩, rfl⟩
            go_wp2_with fail
            refine (into_c _ _ _ (by omega) (by omega)).mono ?_
            rintro e w5 ⟨⟨v, v1, v2, rfl⟩, rfl⟩
            by_cases cs : okS lo hi
            · have S := Lib.hid cs
              clear cs
              by_cases cr : 0 ≤ rho ∧ rho ≤ 1000
              · obtain ⟨p1, p2⟩ := cr
                have HF := Lib.hid (age_half S.out u1 p1 p2)
                have M := age_twice S.out u1 u2 v1 v2 p1 p2
                obtain ⟨L3, E1⟩ : ∃ x, shl lo (elLo (u + v) rho) = x := ⟨_, rfl⟩
                obtain ⟨U3, E2⟩ : ∃ x, shh hi (elHi (u + v) rho) = x := ⟨_, rfl⟩
                obtain ⟨L1, E3⟩ : ∃ x, shl lo (elLo u rho) = x := ⟨_, rfl⟩
                obtain ⟨U1, E4⟩ : ∃ x, shh hi (elHi u rho) = x := ⟨_, rfl⟩
                rw [E3, E4] at HF
                rw [E1, E2, E3, E4] at M
                obtain ⟨L2, E5⟩ : ∃ x, shl L1 (elLo v rho) = x := ⟨_, rfl⟩
                obtain ⟨U2, E6⟩ : ∃ x, shh U1 (elHi v rho) = x := ⟨_, rfl⟩
                rw [E5, E6] at M
                obtain ⟨M1, M2⟩ := M
                have m1 : decide (L2 ≤ L3) = true := decide_eq_true M1
                have m2 : decide (U3 ≤ U2) = true := decide_eq_true M2
                obtain ⟨a1, a2, a3, a4, a5⟩ := A.out
                go_wp2_with fail
                clear a1 a2 a3 a4 a5
                refine (Age_ok _ _ _ _ _ S.out (by omega) p1 p2).mono ?_
                rintro e w6 ⟨rfl, hb⟩
                rw [E1, E2]
                have A6 := Lib.hid ((A.out.below hb).alloc (.cells #[.int .i64 (L3), .int .i64 (U3)] 34))
                have O6 := Lib.hid (Sq.new w6 (L3) (U3))
                have HB6 := Lib.hid (balloc (bstep HB.out hb) (.cells #[.int .i64 (L3), .int .i64 (U3)] 34))
                clear hb A HB
                obtain ⟨a1, a2, a3, a4, a5⟩ := A6.out
                go_wp2_with fail
                clear a1 a2 a3 a4 a5
                refine (Age_ok _ _ _ _ _ S.out u1 p1 p2).mono ?_
                rintro e w7 ⟨rfl, hb⟩
                rw [E3, E4]
                have O7 := Lib.hid ((O6.out.below hb).alloc (.cells #[.int .i64 (L1), .int .i64 (U1)] 34))
                have H7 := Lib.hid (Sq.new w7 (L1) (U1))
                have HB7 := Lib.hid (balloc (bstep HB6.out hb) (.cells #[.int .i64 (L1), .int .i64 (U1)] 34))
                clear hb A6 O6 HB6
                obtain ⟨a1, a2, a3, a4, a5⟩ := H7.out
                go_wp2_with fail
                clear a1 a2 a3 a4 a5
                refine (Age_ok _ _ _ _ _ HF.out v1 p1 p2).mono ?_
                rintro e w8 ⟨rfl, hb⟩
                rw [E5, E6]
                have O8 := Lib.hid (O7.out.below hb)
                have HB8 := Lib.hid (bstep HB7.out hb)
                clear hb O7 H7 HB7
                obtain ⟨a1, a2, a3, a4, a5⟩ := O8.out
                go_wp2_with fail
                go_ret
                exact ⟨rfl, balloc HB8.out _⟩
              · have R : Hid (¬ (0 ≤ rho ∧ rho ≤ 1000)) := cr
                clear cr
                obtain ⟨a1, a2, a3, a4, a5⟩ := A.out
                go_wp2_with fail
                clear a1 a2 a3 a4 a5
                refine (Age_range _ _ _ _ _ S.out (fun g => R.out g.2)).mono ?_
                rintro e w6 ⟨rfl, hb⟩
                have A6 := Lib.hid ((A.out.below hb).alloc (.cells #[.int .i64 (0), .int .i64 (0)] 34))
                have O6 := Lib.hid (Sq.new w6 (0) (0))
                have HB6 := Lib.hid (balloc (bstep HB.out hb) (.cells #[.int .i64 (0), .int .i64 (0)] 34))
                clear hb A HB
                obtain ⟨a1, a2, a3, a4, a5⟩ := A6.out
                go_wp2_with fail
                clear a1 a2 a3 a4 a5
                refine (Age_range _ _ _ _ _ S.out (fun g => R.out g.2)).mono ?_
                rintro e w7 ⟨rfl, hb⟩
                have O7 := Lib.hid ((O6.out.below hb).alloc (.cells #[.int .i64 (0), .int .i64 (0)] 34))
                have H7 := Lib.hid (Sq.new w7 (0) (0))
                have HB7 := Lib.hid (balloc (bstep HB6.out hb) (.cells #[.int .i64 (0), .int .i64 (0)] 34))
                clear hb A6 O6 HB6
                obtain ⟨a1, a2, a3, a4, a5⟩ := H7.out
                go_wp2_with fail
                clear a1 a2 a3 a4 a5
                refine (Age_range _ _ _ _ _ (by unfold okS; omega) (fun g => R.out g.2)).mono ?_
                rintro e w8 ⟨rfl, hb⟩
                have O8 := Lib.hid (O7.out.below hb)
                have HB8 := Lib.hid (bstep HB7.out hb)
                clear hb O7 H7 HB7
                obtain ⟨a1, a2, a3, a4, a5⟩ := O8.out
                go_wp2_with fail
                go_ret
                exact ⟨rfl, balloc HB8.out _⟩
            · have S := Lib.hid cs
              clear cs
              by_cases cr : 0 ≤ rho ∧ rho ≤ 1000
              · obtain ⟨p1, p2⟩ := cr
                obtain ⟨a1, a2, a3, a4, a5⟩ := A.out
                go_wp2_with fail
                clear a1 a2 a3 a4 a5
                refine (Age_shape _ _ _ _ _ S.out).mono ?_
                rintro e w6 ⟨rfl, hb⟩
                have A6 := Lib.hid ((A.out.below hb).alloc (.cells #[.int .i64 (0), .int .i64 (0)] 34))
                have O6 := Lib.hid (Sq.new w6 (0) (0))
                have HB6 := Lib.hid (balloc (bstep HB.out hb) (.cells #[.int .i64 (0), .int .i64 (0)] 34))
                clear hb A HB
                obtain ⟨a1, a2, a3, a4, a5⟩ := A6.out
                go_wp2_with fail
                clear a1 a2 a3 a4 a5
                refine (Age_shape _ _ _ _ _ S.out).mono ?_
                rintro e w7 ⟨rfl, hb⟩
                have O7 := Lib.hid ((O6.out.below hb).alloc (.cells #[.int .i64 (0), .int .i64 (0)] 34))
                have H7 := Lib.hid (Sq.new w7 (0) (0))
                have HB7 := Lib.hid (balloc (bstep HB6.out hb) (.cells #[.int .i64 (0), .int .i64 (0)] 34))
                clear hb A6 O6 HB6
                obtain ⟨a1, a2, a3, a4, a5⟩ := H7.out
                go_wp2_with fail
                clear a1 a2 a3 a4 a5
                refine (Age_ok 0 0 _ _ _ (by unfold okS; omega) v1 p1 p2).mono ?_
                rintro e w8 ⟨rfl, hb⟩
                have O8 := Lib.hid (O7.out.below hb)
                have HB8 := Lib.hid (bstep HB7.out hb)
                clear hb O7 H7 HB7
                obtain ⟨a1, a2, a3, a4, a5⟩ := O8.out
                go_wp2_with fail
                go_ret
                exact ⟨rfl, balloc HB8.out _⟩
              · have R : Hid (¬ (0 ≤ rho ∧ rho ≤ 1000)) := cr
                clear cr
                obtain ⟨a1, a2, a3, a4, a5⟩ := A.out
                go_wp2_with fail
                clear a1 a2 a3 a4 a5
                refine (Age_shape _ _ _ _ _ S.out).mono ?_
                rintro e w6 ⟨rfl, hb⟩
                have A6 := Lib.hid ((A.out.below hb).alloc (.cells #[.int .i64 (0), .int .i64 (0)] 34))
                have O6 := Lib.hid (Sq.new w6 (0) (0))
                have HB6 := Lib.hid (balloc (bstep HB.out hb) (.cells #[.int .i64 (0), .int .i64 (0)] 34))
                clear hb A HB
                obtain ⟨a1, a2, a3, a4, a5⟩ := A6.out
                go_wp2_with fail
                clear a1 a2 a3 a4 a5
                refine (Age_shape _ _ _ _ _ S.out).mono ?_
                rintro e w7 ⟨rfl, hb⟩
                have O7 := Lib.hid ((O6.out.below hb).alloc (.cells #[.int .i64 (0), .int .i64 (0)] 34))
                have H7 := Lib.hid (Sq.new w7 (0) (0))
                have HB7 := Lib.hid (balloc (bstep HB6.out hb) (.cells #[.int .i64 (0), .int .i64 (0)] 34))
                clear hb A6 O6 HB6
                obtain ⟨a1, a2, a3, a4, a5⟩ := H7.out
                go_wp2_with fail
                clear a1 a2 a3 a4 a5
                refine (Age_range _ _ _ _ _ (by unfold okS; omega) (fun g => R.out g.2)).mono ?_
                rintro e w8 ⟨rfl, hb⟩
                have O8 := Lib.hid (O7.out.below hb)
                have HB8 := Lib.hid (bstep HB7.out hb)
                clear hb O7 H7 HB7
                obtain ⟨a1, a2, a3, a4, a5⟩ := O8.out
                go_wp2_with fail
                go_ret
                exact ⟨rfl, balloc HB8.out _⟩
end Go.Proofs.Ythdkkcibomigcaa.oscSplits
