/-
  The document's guard in memory; its has and its Flags.
  Conditions: none but that the guard lies in memory.
-/
import Derived.Test.YtdngoopogajhiaaGnA
import Derived.Test.YtdngoopogajhiaaGuP
import Derived.BigQuiet
namespace Go.Proofs.Ytdngoopogajhiaa.Gu
open Go.RowKit Go.ChangeShapes Go.WideShapes Go.ChangeAt Go.Joins Fl
set_option linter.unusedVariables false
set_option linter.unusedSimpArgs false

def rvs (r : Ru) : List Value := [.int .u32 r.addr, .int .u32 r.mask, .int .i64 r.flags]
def hvs (h : Ho) : List Value := [.int .u32 h.addr, .int .i64 h.last, .int .i64 h.count, .int .i64 h.score]
theorem okr : Gn.Ok rvs 3 := ⟨fun _ => rfl, fun x u hu => by simp [rvs] at hu; rcases hu with rfl | rfl | rfl <;> rfl, by decide⟩
theorem okh : Gn.Ok hvs 4 := ⟨fun _ => rfl, fun x u hu => by simp [hvs] at hu; rcases hu with rfl | rfl | rfl | rfl <;> rfl, by decide⟩
theorem ss_keep {α : Type} {enc : α → List Value} {k : Nat} {w w' : World} {v : Value} {L : List α} (h : Gn.Ss enc k w v L) (e : ∀ g, v.ownBlock = some g → g < w.heap.size → w'.heap[g]? = w.heap[g]?) (hs : w.heap.size ≤ w'.heap.size) : Gn.Ss enc k w' v L := by
  obtain ⟨a, cap, ev, h1, h2, h3⟩ := h
  refine ⟨a, cap, ev, h1, h2, fun hn => ?_⟩
  obtain ⟨b, off, ea, B⟩ := h3 hn
  exact ⟨b, off, ea, B.keep (e b (by rw [ev, ea]; rfl) B.1) hs⟩
/-- the document's guard lies at b; Z: the blocks that are its own. -/
def DG (w : World) (b : Nat) (Z : Nat → Prop) (G : Gd) : Prop :=
  ∃ rv hv, Blk w b [rv, hv, .int .i64 G.last] ∧ Z b ∧ Gn.Ss rvs 3 w rv G.rules ∧ Gn.Ss hvs 4 w hv G.hosts ∧ (∀ g, rv.ownBlock = some g → Z g ∧ g ≠ b) ∧ (∀ g, hv.ownBlock = some g → Z g ∧ g ≠ b) ∧ (∀ i, Z i → i < w.heap.size)
theorem DG.keep {w w' : World} {b : Nat} {Z Y : Nat → Prop} {G : Gd} (h : DG w b Z G) (q : Tu Y w w') (d : ∀ i, Z i → ¬ Y i) : DG w' b Z G := by
  obtain ⟨rv, hv, h1, h2, h3, h4, h5, h6, h7⟩ := h
  refine ⟨rv, hv, blk_keep h1 (q.block b h1.1 (d b h2)) q.size, h2, ?_, ?_, h5, h6, fun i hi => Nat.lt_of_lt_of_le (h7 i hi) q.size⟩
  · exact ss_keep h3 (fun g hg hl => q.block g hl (d g (h5 g hg).1)) q.size
  · exact ss_keep h4 (fun g hg hl => q.block g hl (d g (h6 g hg).1)) q.size
theorem DG.below {w w' : World} {b : Nat} {Z : Nat → Prop} {G : Gd} (h : DG w b Z G) (q : Below w.heap.size w w') : DG w' b Z G := h.keep (Y := fun _ => False) (tu_below q) (fun _ _ z => z)
theorem has_c (f b : Int) (w : World) (hf : 0 ≤ f ∧ f ≤ 127) (hb : 0 < b ∧ b ≤ 127) : Calls Try.prog 24 #[.int .i64 f, .int .i64 b] w fun e w' => e = .returned (.bool (hasF f b)) ∧ w' = w := by
  obtain ⟨q, hq⟩ : ∃ q, f / b = q := ⟨_, rfl⟩
  have k1 : f.tdiv b = q := by rw [Int.tdiv_eq_ediv_of_nonneg hf.1]; exact hq
  have q0 : 0 ≤ q := hq ▸ Int.ediv_nonneg hf.1 (by omega)
  have q1 : q ≤ f := hq ▸ Int.ediv_le_self _ hf.1
  have k2 : IntKind.i64.wrap q = q := wrap_in (by omega) (by omega)
  have k3 : q.tmod 2 = q % 2 := Int.tmod_eq_emod_of_nonneg q0
  have k4 : IntKind.i64.wrap (q % 2) = q % 2 := wrap_in (by omega) (by omega)
  have k6 : (b == 0) = false := by rw [beq_eq_false_iff_ne]; omega
  have k7 : ¬ b = 0 := by omega
  have H : Hid (hasF f b = (q % 2 == 1)) := Lib.hid (by unfold hasF; rw [hq]; by_cases z : q % 2 = 1 <;> simp [z])
  rw [H.out]
  clear hq hf hb
  obtain ⟨r, hr⟩ : ∃ r, q % 2 = r := ⟨_, rfl⟩
  rw [hr] at k3 k4 ⊢
  clear hr H
  go_enter Try.func24, Try.ntmps24
  go_wp2_with fail
  go_ret
  exact ⟨rfl, rfl⟩
/-- where the best so far stands. -/
def At (R : List Ru) (a : Int) (k : Nat) (v : Value) : Prop := (v = .int .i64 (-1) ∧ bst a (R.take k) = none) ∨ ∃ (j : Nat) (r : Ru), v = .int .i64 (j : Nat) ∧ R[j]? = some r ∧ bst a (R.take k) = some r
set_option maxRecDepth 100000 in
set_option maxHeartbeats 8000000 in
theorem rFlags_c {w : World} {b : Nat} {Z : Nat → Prop} {G : Gd} (h : DG w b Z G) (hl : G.rules.length ≤ 64) (a : Int) :
    Calls Try.prog 15 #[.pointer (some ⟨b, 0, none⟩), .int .u32 a] w fun e w' => e = .returned (.int .i64 (flg a G.rules)) ∧ Below w.heap.size w w' := by
  obtain ⟨rv, hv, h1, _, h3, _⟩ := h
  have HB := Lib.hid h1
  have HS := Lib.hid h3
  clear h1
  generalize G.rules = R at *
  generalize G.last = gl at *
  obtain ⟨ra, rc, rfl, c1, c2, _⟩ := h3
  obtain ⟨m, hm⟩ : ∃ m, R.length = m := ⟨_, rfl⟩
  have HM := Lib.hid hm
  have FG : Hid (flg a R = flO (bst a (R.take m))) := Lib.hid (by rw [List.take_of_length_le (Nat.le_of_eq hm)]; rfl)
  rw [hm] at HS HB c1 hl
  have m0 : (0 : Int) ≤ (m : Int) := by omega
  have m1 : (m : Int) ≤ 64 := by omega
  have m2 : (m : Int) ≤ (rc : Int) := by omega
  have m3 : (rc : Int) ≤ 9223372036854775807 := by omega
  clear hm
  go_enter Try.func15, Try.ntmps15
  go_wp2_with fail
  go_loopw [5, 6] (fun bv iv wr => ∃ k : Nat, k ≤ m ∧ iv = .int .i64 (k : Nat) ∧ At R a k bv ∧ Below w.heap.size w wr) (fun _ iv _ => m - (intOf iv).toNat)
  case atStart => exact ⟨0, by omega, rfl, .inl ⟨rfl, rfl⟩, brefl w⟩
  case round =>
    obtain ⟨k, hk, rfl, hat, hb⟩ := hrel
    rename World => wr
    have BR := Lib.hid hb
    have CB := Lib.hid (fun W (q : Below w.heap.size w W) => ((HB.out.below q).2 0 _ rfl).1)
    have CR := Lib.hid (fun W (q : Below w.heap.size w W) (j : Nat) (r : Ru) (hj : R[j]? = some r) => (HS.out.below q).at hj)
    have z0 := CB.out wr BR.out
    clear hb
    by_cases c : k < m
    · have e1 : decide ((k : Int) < (m : Int)) = true := decide_eq_true (by omega)
      have e2 : decide (k < m) = true := decide_eq_true c
      have k1 : (k : Int) < (m : Int) := by omega
      have k0 : (0 : Int) ≤ (k : Int) := by omega
      have wk : IntKind.i64.wrap ((k : Int) + 1) = (k : Int) + 1 := wrap_in (by omega) (by omega)
      obtain ⟨x, hx⟩ : ∃ x, R[k]? = some x := ⟨_, List.getElem?_eq_getElem (by rw [HM.out]; exact c)⟩
      have HX := Lib.hid hx
      have SN := Lib.hid (bst_snoc (a := a) hx)
      obtain ⟨bb, off, rfl, _, hR⟩ := CR.out wr BR.out k x hx
      have y0 := hR 0 _ rfl
      have y1 := hR 1 _ rfl
      have y2 := hR 2 _ rfl
      rw [Nat.add_zero] at y0
      clear hx hR
      obtain ⟨xa, xm, xf⟩ := x
      simp only at y0 y1 y2
      have NA := Lib.hid (Blk.new' wr #[.int .u32 xa, .int .u32 xm, .int .i64 xf] 62)
      have BA := Lib.hid (balloc BR.out (.cells #[.int .u32 xa, .int .u32 xm, .int .i64 xf] 62))
      go_upto_region 6 with fail
      generalize wr.alloc (.cells #[.int .u32 xa, .int .u32 xm, .int .i64 xf] 62) = wa at *
      have z0' := CB.out wa BA.out
      have x0 := (NA.out.2 0 _ rfl).1
      have x1 := (NA.out.2 1 _ rfl).1
      clear y0 y1 y2 z0
      by_cases f : an a xm = xa
      · have f1 : (bits BinOp.and IntKind.u32 a xm == xa) = true := by simpa [an] using f
        rcases hat with ⟨rfl, hn⟩ | ⟨j, r, rfl, hj, hs⟩
        · have NX : Hid (At R a (k + 1) (.int .i64 (k : Nat))) := Lib.hid (.inr ⟨k, _, rfl, HX.out, by rw [SN.out, hn]; unfold pkB; rw [if_pos ⟨f, rfl⟩]⟩)
          clear hn f
          go_quiet (fail)
          go_wp2_with fail
          exact ⟨⟨k + 1, by omega, by go_num, NX.out, bdrew BA.out _⟩, by simp [intOf]; omega⟩
        · obtain ⟨bb', off', ee, _, hR⟩ := CR.out wa BA.out j r hj
          cases ee
          have y1 := hR 1 _ rfl
          have jl : j < m := by rw [← HM.out]; exact (List.getElem?_eq_some_iff.1 hj).1
          have j0 : (0 : Int) ≤ (j : Int) := by omega
          have j1 : (j : Int) < (m : Int) := by omega
          have j2 : decide ((j : Int) < 0) = false := decide_eq_false (by omega)
          have HJ := Lib.hid hj
          clear hR hj
          obtain ⟨ra, rm, rf⟩ := r
          simp only at y1
          by_cases g : rm ≤ xm
          · have g1 := decide_eq_true g
            have NX : Hid (At R a (k + 1) (.int .i64 (k : Nat))) := Lib.hid (.inr ⟨k, _, rfl, HX.out, by rw [SN.out, hs]; unfold pkB; rw [if_pos ⟨f, g1⟩]⟩)
            clear hs f
            go_quiet (fail)
            go_wp2_with fail
            exact ⟨⟨k + 1, by omega, by go_num, NX.out, bdrew BA.out _⟩, by simp [intOf]; omega⟩
          · have g1 := decide_eq_false g
            have NX : Hid (At R a (k + 1) (.int .i64 (j : Nat))) := Lib.hid (.inr ⟨j, _, rfl, HJ.out, by rw [SN.out, hs]; unfold pkB; rw [if_neg (fun z => by have := z.2; unfold geB at this; simp only [decide_eq_true_iff] at this; exact g this)]⟩)
            clear hs f
            go_quiet (fail)
            go_wp2_with fail
            exact ⟨⟨k + 1, by omega, by go_num, NX.out, bdrew BA.out _⟩, by simp [intOf]; omega⟩
      · have f1 : (bits BinOp.and IntKind.u32 a xm == xa) = false := by simpa [an] using f
        have NE : Hid (bst a (R.take (k + 1)) = bst a (R.take k)) := Lib.hid (by rw [SN.out]; unfold pkB; rw [if_neg (fun z => f z.1)])
        clear f
        rcases hat with ⟨rfl, hn⟩ | ⟨j, r, rfl, hj, hs⟩
        · have NX : Hid (At R a (k + 1) (.int .i64 (-1))) := Lib.hid (.inl ⟨rfl, by rw [NE.out]; exact hn⟩)
          clear hn
          go_quiet (fail)
          go_wp2_with fail
          exact ⟨⟨k + 1, by omega, by go_num, NX.out, bdrew BA.out _⟩, by simp [intOf]; omega⟩
        · have NX : Hid (At R a (k + 1) (.int .i64 (j : Nat))) := Lib.hid (.inr ⟨j, r, rfl, hj, by rw [NE.out]; exact hs⟩)
          clear hs hj
          go_quiet (fail)
          go_wp2_with fail
          exact ⟨⟨k + 1, by omega, by go_num, NX.out, bdrew BA.out _⟩, by simp [intOf]; omega⟩
    · have e1 : decide ((k : Int) < (m : Int)) = false := decide_eq_false (by omega)
      have e2 : decide (k < m) = false := decide_eq_false c
      obtain rfl : k = m := by omega
      rcases hat with ⟨rfl, hn⟩ | ⟨j, r, rfl, hj, hs⟩
      · have FE : Hid (flg a R = 0) := Lib.hid (by rw [FG.out, hn]; rfl)
        clear hn
        go_wp2_with fail
        go_ret
        exact ⟨by rw [FE.out]; rfl, BR.out⟩
      · obtain ⟨bb', off', rfl, _, hR⟩ := CR.out wr BR.out j r hj
        have y2 := hR 2 _ rfl
        have jl : j < k := by rw [← HM.out]; exact (List.getElem?_eq_some_iff.1 hj).1
        have j0 : (0 : Int) ≤ (j : Int) := by omega
        have j1 : (j : Int) < (k : Int) := by omega
        have j2 : decide ((j : Int) < 0) = false := decide_eq_false (by omega)
        have FE : Hid (flg a R = r.flags) := Lib.hid (by rw [FG.out, hs]; rfl)
        clear hs hR hj
        go_wp2_with fail
        go_ret
        exact ⟨by rw [FE.out]; rfl, BR.out⟩
end Go.Proofs.Ytdngoopogajhiaa.Gu
