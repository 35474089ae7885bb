/-
  The contract of wire.Decode.
  Conditions: none.
-/
import Derived.Test.YtmjbnbjkpimjmaaWiR
import Derived.Test.YtmjbnbjkpimjmaaWjF
import Derived.Deep.RegionHeld3
import Derived.Deep.RegionLaw
namespace Go.Proofs.Ytmjbnbjkpimjmaa.Wi
open Go.RowKit Go.ChangeShapes Go.WideShapes Go.ChangeAt Go.Joins By
set_option linter.unusedVariables false
set_option linter.unusedSimpArgs false

theorem bset {a b : World} (h : Below a.heap.size a b) (i : Nat) (v : Value) : Below a.heap.size a (b.setCell ⟨a.heap.size, i, none⟩ v) := h.setCell (p := ⟨a.heap.size, i, none⟩) (Nat.le_refl _) v
theorem bs_le {w : World} {b o n m : Nat} {f : Nat → Nat} (h : Bs w b o n f) (hm : m ≤ n) : Bs w b o m f := ⟨h.1, h.2.1, fun i hi => h.2.2 i (by omega)⟩
set_option maxRecDepth 100000 in
set_option maxHeartbeats 16000000 in
theorem Decode_ok {B o n cap : Nat} {f : Nat → Nat} {w : World} (H : Bs w B o n f) (hc : n ≤ cap) (hc2 : cap ≤ 9223372036854775807) {q : Pk} {a : Nat} (HD : dec f n = ⟨0, q, a⟩) :
    Calls Try.prog 13 #[.slice (some ⟨B, o, none⟩) n cap] w fun e w' => (∃ fv dv row, e = .returned (.tuple #[PV q fv dv, .int .i64 0]) ∧ Rowd w' w.heap.size fv row q.fs ∧ By.Own w' w.heap.size dv q.dig) ∧ Below w.heap.size w w' := by
  obtain ⟨h0, h1, h2, h3, _⟩ := dec_zero HD
  have CC := Lib.hid (fun z (k : Below w.heap.size w z) => cut_c (H.below k) hc hc2 (by omega) (by omega) h3)
  have HX := Lib.hid H
  have hBw := H.1
  have n48 : 48 ≤ n := h0
  have n1024 : n ≤ 1024 := h2
  clear H h0 h1 h2 h3
  go_enter Try.func13, Try.ntmps13
  go_wp2_with fail
  have N := Blk.new' w #[.int .i64 0, .int .i64 0, .int .i64 0, .int .i64 0, .int .i64 0, .int .i64 0, .int .u32 0, .int .u32 0, .int .u32 0, .int .u64 0, .int .u64 0, .int .u64 0, .int .u64 0, .slice none 0 0, .int .i64 0, .int .u32 0, .slice none 0 0] 30
  have B0 := balloc (brefl w) (.cells #[.int .i64 0, .int .i64 0, .int .i64 0, .int .i64 0, .int .i64 0, .int .i64 0, .int .u32 0, .int .u32 0, .int .u32 0, .int .u64 0, .int .u64 0, .int .u64 0, .int .u64 0, .slice none 0 0, .int .i64 0, .int .u32 0, .slice none 0 0] 30)
  generalize w.alloc (.cells #[.int .i64 0, .int .i64 0, .int .i64 0, .int .i64 0, .int .i64 0, .int .i64 0, .int .u32 0, .int .u32 0, .int .u32 0, .int .u64 0, .int .u64 0, .int .u64 0, .int .u64 0, .slice none 0 0, .int .i64 0, .int .u32 0, .slice none 0 0] 30) = w1 at *
  refine (CC.out _ B0).mono ?_
  rintro e w2 ⟨hcp, hb⟩
  rcases hcp with ⟨hd1, _⟩ | ⟨l, a', pfv, ad, hcut, hdec, rfl, own, had⟩
  · rw [HD] at hd1; cases hd1
  obtain ⟨rfl, rfl⟩ : q = pkAt f n l a' ∧ a = a' := by
    rw [HD] at hdec
    cases hdec
    exact ⟨rfl, rfl⟩
  obtain ⟨fa, fc, ef⟩ := ownP_form own
  rw [vsl_len] at ef
  subst ef
  have IN := Lib.hid (cutp_in 8 48 l a hcut n48)
  have N2 := N.below hb
  have B2 := bstep B0 hb
  clear N B0 hb CC HD hdec hcut
  go_upto_region 2 with fail
  have NR := Lib.hid (N2.below (balloc (brefl w2) (.cells #[.slice (some ⟨B, o, none⟩) 48 cap, .slice fa l.length fc, .slice ad (n - a) (cap - a), .int .i64 (au (n - a))] 63)))
  have NP := Lib.hid (Blk.new' w2 #[.slice (some ⟨B, o, none⟩) 48 cap, .slice fa l.length fc, .slice ad (n - a) (cap - a), .int .i64 (au (n - a))] 63)
  have OP := Lib.hid (show OwnP _ _ _ _ from ⟨row_below own.1 (balloc (brefl w2) (.cells #[.slice (some ⟨B, o, none⟩) 48 cap, .slice fa l.length fc, .slice ad (n - a) (cap - a), .int .i64 (au (n - a))] 63)), own.2⟩)
  have B3 := Lib.hid (bstep B2 (balloc (brefl w2) (.cells #[.slice (some ⟨B, o, none⟩) 48 cap, .slice fa l.length fc, .slice ad (n - a) (cap - a), .int .i64 (au (n - a))] 63)))
  have zw : w.heap.size < w2.heap.size := N2.1
  generalize w2.alloc (.cells #[.slice (some ⟨B, o, none⟩) 48 cap, .slice fa l.length fc, .slice ad (n - a) (cap - a), .int .i64 (au (n - a))] 63) = w3 at *
  clear N2 B2 own
  go_upto_region 4 with fail
  go_cut [6] from 19 to 24 (fun s wr => ∃ QB, s = .pointer (some ⟨QB, 0, none⟩) ∧ w3.heap.size ≤ QB ∧ Blk wr QB [.int .i64 (hd f).leap, .int .i64 (hd f).ver, .int .i64 (hd f).mode, .int .i64 (hd f).strat, .int .i64 (hd f).poll, .int .i64 (hd f).prec, .int .u32 ((hd f).rd : Nat), .int .u32 ((hd f).rs : Nat), .int .u32 ((hd f).rid : Nat), .int .u64 ((hd f).tref : Nat), .int .u64 ((hd f).torg : Nat), .int .u64 ((hd f).trec : Nat), .int .u64 ((hd f).txm : Nat), .slice none 0 0, .int .i64 (au (n - a)), .int .u32 0, .slice none 0 0] ∧ Below w3.heap.size w3 wr)
  case first =>
    have HH := Lib.hid (header_c (w := w3.drew) (cap := cap) (bs_le (HX.out.below (bstep B3.out (brefl w3).drew)) n48) (by omega) hc2)
    have HH := Lib.hid (HH.out.mono (R' := fun e w' => e = .returned (.agg #[.int .i64 (hd f).leap, .int .i64 (hd f).ver, .int .i64 (hd f).mode, .int .i64 (hd f).strat, .int .i64 (hd f).poll, .int .i64 (hd f).prec, .int .u32 ((hd f).rd : Nat), .int .u32 ((hd f).rs : Nat), .int .u32 ((hd f).rid : Nat), .int .u64 ((hd f).tref : Nat), .int .u64 ((hd f).torg : Nat), .int .u64 ((hd f).trec : Nat), .int .u64 ((hd f).txm : Nat)]) ∧ Below w3.heap.size w3 w') fun e w' h => ⟨h.1, bstep (a := w3) (brefl w3).drew h.2⟩)
    have N3 := Blk.new' w3 #[.int .i64 0, .int .i64 0, .int .i64 0, .int .i64 0, .int .i64 0, .int .i64 0, .int .u32 0, .int .u32 0, .int .u32 0, .int .u64 0, .int .u64 0, .int .u64 0, .int .u64 0, .slice none 0 0, .int .i64 0, .int .u32 0, .slice none 0 0] 30
    have B4 : Below w3.heap.size w3 (w3.alloc (.cells #[.int .i64 0, .int .i64 0, .int .i64 0, .int .i64 0, .int .i64 0, .int .i64 0, .int .u32 0, .int .u32 0, .int .u32 0, .int .u64 0, .int .u64 0, .int .u64 0, .int .u64 0, .slice none 0 0, .int .i64 0, .int .u32 0, .slice none 0 0] 30)).drew := (balloc (brefl w3) _).drew
    have N3 : Blk (w3.alloc (.cells #[.int .i64 0, .int .i64 0, .int .i64 0, .int .i64 0, .int .i64 0, .int .i64 0, .int .u32 0, .int .u32 0, .int .u32 0, .int .u64 0, .int .u64 0, .int .u64 0, .int .u64 0, .slice none 0 0, .int .i64 0, .int .u32 0, .slice none 0 0] 30)).drew w3.heap.size #[.int .i64 0, .int .i64 0, .int .i64 0, .int .i64 0, .int .i64 0, .int .i64 0, .int .u32 0, .int .u32 0, .int .u32 0, .int .u64 0, .int .u64 0, .int .u64 0, .int .u64 0, .slice none 0 0, .int .i64 0, .int .u32 0, .slice none 0 0].toList := N3
    have H2 := Lib.hid ((header_c (w := (w3.alloc (.cells #[.int .i64 0, .int .i64 0, .int .i64 0, .int .i64 0, .int .i64 0, .int .i64 0, .int .u32 0, .int .u32 0, .int .u32 0, .int .u64 0, .int .u64 0, .int .u64 0, .int .u64 0, .slice none 0 0, .int .i64 0, .int .u32 0, .slice none 0 0] 30)).drew) (cap := cap) (bs_le (HX.out.below (bstep B3.out B4)) n48) (by omega) hc2).mono (R' := fun e w' => e = .returned (.agg #[.int .i64 (hd f).leap, .int .i64 (hd f).ver, .int .i64 (hd f).mode, .int .i64 (hd f).strat, .int .i64 (hd f).poll, .int .i64 (hd f).prec, .int .u32 ((hd f).rd : Nat), .int .u32 ((hd f).rs : Nat), .int .u32 ((hd f).rid : Nat), .int .u64 ((hd f).tref : Nat), .int .u64 ((hd f).torg : Nat), .int .u64 ((hd f).trec : Nat), .int .u64 ((hd f).txm : Nat)]) ∧ Below w3.heap.size w3 w' ∧ Hid (Blk w' w3.heap.size #[.int .i64 0, .int .i64 0, .int .i64 0, .int .i64 0, .int .i64 0, .int .i64 0, .int .u32 0, .int .u32 0, .int .u32 0, .int .u64 0, .int .u64 0, .int .u64 0, .int .u64 0, .slice none 0 0, .int .i64 0, .int .u32 0, .slice none 0 0].toList) ∧ w'.cell? ⟨w3.heap.size, 0, none⟩ = some (.int .i64 0) ∧ w'.frozen? ⟨w3.heap.size, 0, none⟩ = false ∧ w'.cell? ⟨w3.heap.size, 1, none⟩ = some (.int .i64 0) ∧ w'.frozen? ⟨w3.heap.size, 1, none⟩ = false ∧ w'.cell? ⟨w3.heap.size, 2, none⟩ = some (.int .i64 0) ∧ w'.frozen? ⟨w3.heap.size, 2, none⟩ = false ∧ w'.cell? ⟨w3.heap.size, 3, none⟩ = some (.int .i64 0) ∧ w'.frozen? ⟨w3.heap.size, 3, none⟩ = false ∧ w'.cell? ⟨w3.heap.size, 4, none⟩ = some (.int .i64 0) ∧ w'.frozen? ⟨w3.heap.size, 4, none⟩ = false ∧ w'.cell? ⟨w3.heap.size, 5, none⟩ = some (.int .i64 0) ∧ w'.frozen? ⟨w3.heap.size, 5, none⟩ = false ∧ w'.cell? ⟨w3.heap.size, 6, none⟩ = some (.int .u32 0) ∧ w'.frozen? ⟨w3.heap.size, 6, none⟩ = false ∧ w'.cell? ⟨w3.heap.size, 7, none⟩ = some (.int .u32 0) ∧ w'.frozen? ⟨w3.heap.size, 7, none⟩ = false ∧ w'.cell? ⟨w3.heap.size, 8, none⟩ = some (.int .u32 0) ∧ w'.frozen? ⟨w3.heap.size, 8, none⟩ = false ∧ w'.cell? ⟨w3.heap.size, 9, none⟩ = some (.int .u64 0) ∧ w'.frozen? ⟨w3.heap.size, 9, none⟩ = false ∧ w'.cell? ⟨w3.heap.size, 10, none⟩ = some (.int .u64 0) ∧ w'.frozen? ⟨w3.heap.size, 10, none⟩ = false ∧ w'.cell? ⟨w3.heap.size, 11, none⟩ = some (.int .u64 0) ∧ w'.frozen? ⟨w3.heap.size, 11, none⟩ = false ∧ w'.cell? ⟨w3.heap.size, 12, none⟩ = some (.int .u64 0) ∧ w'.frozen? ⟨w3.heap.size, 12, none⟩ = false ∧ w'.cell? ⟨w3.heap.size, 13, none⟩ = some (.slice none 0 0) ∧ w'.frozen? ⟨w3.heap.size, 13, none⟩ = false ∧ w'.cell? ⟨w3.heap.size, 14, none⟩ = some (.int .i64 0) ∧ w'.frozen? ⟨w3.heap.size, 14, none⟩ = false ∧ w'.cell? ⟨w3.heap.size, 15, none⟩ = some (.int .u32 0) ∧ w'.frozen? ⟨w3.heap.size, 15, none⟩ = false ∧ w'.cell? ⟨w3.heap.size, 16, none⟩ = some (.slice none 0 0) ∧ w'.frozen? ⟨w3.heap.size, 16, none⟩ = false) fun e w' h => ⟨h.1, bstep B4 h.2, Lib.hid (N3.below h.2), ((N3.below h.2).2 0 _ rfl).1, ((N3.below h.2).2 0 _ rfl).2, ((N3.below h.2).2 1 _ rfl).1, ((N3.below h.2).2 1 _ rfl).2, ((N3.below h.2).2 2 _ rfl).1, ((N3.below h.2).2 2 _ rfl).2, ((N3.below h.2).2 3 _ rfl).1, ((N3.below h.2).2 3 _ rfl).2, ((N3.below h.2).2 4 _ rfl).1, ((N3.below h.2).2 4 _ rfl).2, ((N3.below h.2).2 5 _ rfl).1, ((N3.below h.2).2 5 _ rfl).2, ((N3.below h.2).2 6 _ rfl).1, ((N3.below h.2).2 6 _ rfl).2, ((N3.below h.2).2 7 _ rfl).1, ((N3.below h.2).2 7 _ rfl).2, ((N3.below h.2).2 8 _ rfl).1, ((N3.below h.2).2 8 _ rfl).2, ((N3.below h.2).2 9 _ rfl).1, ((N3.below h.2).2 9 _ rfl).2, ((N3.below h.2).2 10 _ rfl).1, ((N3.below h.2).2 10 _ rfl).2, ((N3.below h.2).2 11 _ rfl).1, ((N3.below h.2).2 11 _ rfl).2, ((N3.below h.2).2 12 _ rfl).1, ((N3.below h.2).2 12 _ rfl).2, ((N3.below h.2).2 13 _ rfl).1, ((N3.below h.2).2 13 _ rfl).2, ((N3.below h.2).2 14 _ rfl).1, ((N3.below h.2).2 14 _ rfl).2, ((N3.below h.2).2 15 _ rfl).1, ((N3.below h.2).2 15 _ rfl).2, ((N3.below h.2).2 16 _ rfl).1, ((N3.below h.2).2 16 _ rfl).2⟩)
    clear N3 B4
    have KP : Hid (∀ w' : World, Below w3.heap.size w3 w' → w'.cell? ⟨w2.heap.size, 0, none⟩ = some (.slice (some ⟨B, o, none⟩) 48 cap) ∧ w'.cell? ⟨w2.heap.size, 3, none⟩ = some (.int .i64 (au (n - a)))) := Lib.hid fun w' k => ⟨((NP.out.below k).2 0 _ rfl).1, ((NP.out.below k).2 3 _ rfl).1⟩
    have hb0 : Below w3.heap.size w3 w3.drew := (brefl w3).drew
    go_region_held3 (fun w' => w'.cell? ⟨w2.heap.size, 0, none⟩ = some (.slice (some ⟨B, o, none⟩) 48 cap) ∧ w'.cell? ⟨w2.heap.size, 3, none⟩ = some (.int .i64 (au (n - a))))
      (first | (refine KP.out _ ?_; repeat (first | (with_reducible assumption) | (with_reducible refine bset ?_ _ _) | (with_reducible refine balloc ?_ _) | (with_reducible refine bdr ?_) | (with_reducible exact brefl _))))
      (first | (go_at_call 28; (with_reducible refine HH.out.mono ?_); rintro e w' ⟨rfl, hb⟩) | (go_at_call 28; (with_reducible refine H2.out.mono ?_); rintro e w' ⟨rfl, hb, hq, y0, u0, y1, u1, y2, u2, y3, u3, y4, u4, y5, u5, y6, u6, y7, u7, y8, u8, y9, u9, y10, u10, y11, u11, y12, u12, y13, u13, y14, u14, y15, u15, y16, u16⟩))
    · go_wp2_with fail
      go_meet
      case rel =>
        have hbx : Below w3.heap.size w3 w' := by assumption
        exact ⟨_, rfl, hbx.size, Blk.new' _ _ _, balloc hbx _⟩
    · have hbx : Below w3.heap.size w3 w' := by assumption
      have hqz : Hid (Blk w' w3.heap.size #[.int .i64 0, .int .i64 0, .int .i64 0, .int .i64 0, .int .i64 0, .int .i64 0, .int .u32 0, .int .u32 0, .int .u32 0, .int .u64 0, .int .u64 0, .int .u64 0, .int .u64 0, .slice none 0 0, .int .i64 0, .int .u32 0, .slice none 0 0].toList) := by assumption
      have NF := Lib.hid (blk_set (blk_set (blk_set (blk_set (blk_set (blk_set (blk_set (blk_set (blk_set (blk_set (blk_set (blk_set (blk_set (blk_set (blk_set (blk_set (blk_set hqz.out 0 (.int .i64 (hd f).leap)) 1 (.int .i64 (hd f).ver)) 2 (.int .i64 (hd f).mode)) 3 (.int .i64 (hd f).strat)) 4 (.int .i64 (hd f).poll)) 5 (.int .i64 (hd f).prec)) 6 (.int .u32 ((hd f).rd : Nat))) 7 (.int .u32 ((hd f).rs : Nat))) 8 (.int .u32 ((hd f).rid : Nat))) 9 (.int .u64 ((hd f).tref : Nat))) 10 (.int .u64 ((hd f).torg : Nat))) 11 (.int .u64 ((hd f).trec : Nat))) 12 (.int .u64 ((hd f).txm : Nat))) 13 (.slice none 0 0)) 14 (.int .i64 (au (n - a)))) 15 (.int .u32 0)) 16 (.slice none 0 0))
      have BF := Lib.hid (bset (bset (bset (bset (bset (bset (bset (bset (bset (bset (bset (bset (bset (bset (bset (bset (bset hbx 0 (.int .i64 (hd f).leap)) 1 (.int .i64 (hd f).ver)) 2 (.int .i64 (hd f).mode)) 3 (.int .i64 (hd f).strat)) 4 (.int .i64 (hd f).poll)) 5 (.int .i64 (hd f).prec)) 6 (.int .u32 ((hd f).rd : Nat))) 7 (.int .u32 ((hd f).rs : Nat))) 8 (.int .u32 ((hd f).rid : Nat))) 9 (.int .u64 ((hd f).tref : Nat))) 10 (.int .u64 ((hd f).torg : Nat))) 11 (.int .u64 ((hd f).trec : Nat))) 12 (.int .u64 ((hd f).txm : Nat))) 13 (.slice none 0 0)) 14 (.int .i64 (au (n - a)))) 15 (.int .u32 0)) 16 (.slice none 0 0))
      go_wp2_with fail
      go_meet
      case rel => exact ⟨_, rfl, Nat.le_refl _, NF.out, BF.out⟩
  case rest =>
    obtain ⟨QB, rfl, hq1, hq2, hq3⟩ := hcut
    have NRc := Lib.hid (NR.out.below hq3)
    have NPc := Lib.hid (NP.out.below hq3)
    have OPc := Lib.hid (show OwnP wc _ _ _ from ⟨row_below OP.out.1 hq3, OP.out.2⟩)
    have NQc := Lib.hid hq2
    have Bc := Lib.hid (bstep B3.out hq3)
    have zq : w2.heap.size < QB := Nat.lt_of_lt_of_le NP.out.1 hq1
    have nop : Hid (∀ g, (Value.slice fa l.length fc).ownBlock = some g → g < QB) := Lib.hid fun g hg => Nat.lt_of_lt_of_le (OP.out.1.lt g hg).2 hq1
    clear NR NP OP B3 hq1 hq2 hq3
    have c1 := (NPc.out.2 1 _ rfl).1
    have l8 : (l.length : Int) ≤ 8 := by have := IN.out.2.2.2.1; omega
    go_wp2_with fail
    clear c1
    go_loopw [28] (fun iv wr => ∃ (k : Nat) (fv : Value) (row : List (Int × Value)), k ≤ l.length ∧ iv = .int .i64 k ∧ Rowd wr (QB + 1) fv row ((l.take k).map (fdAt f)) ∧ Blk wr QB [.int .i64 (hd f).leap, .int .i64 (hd f).ver, .int .i64 (hd f).mode, .int .i64 (hd f).strat, .int .i64 (hd f).poll, .int .i64 (hd f).prec, .int .u32 ((hd f).rd : Nat), .int .u32 ((hd f).rs : Nat), .int .u32 ((hd f).rid : Nat), .int .u64 ((hd f).tref : Nat), .int .u64 ((hd f).torg : Nat), .int .u64 ((hd f).trec : Nat), .int .u64 ((hd f).txm : Nat), fv, .int .i64 (au (n - a)), .int .u32 0, .slice none 0 0] ∧ Blk wr w.heap.size [.int .i64 0, .int .i64 0, .int .i64 0, .int .i64 0, .int .i64 0, .int .i64 0, .int .u32 0, .int .u32 0, .int .u32 0, .int .u64 0, .int .u64 0, .int .u64 0, .int .u64 0, .slice none 0 0, .int .i64 0, .int .u32 0, .slice none 0 0] ∧ Blk wr w2.heap.size [.slice (some ⟨B, o, none⟩) 48 cap, .slice fa l.length fc, .slice ad (n - a) (cap - a), .int .i64 (au (n - a))] ∧ OwnP wr w1.heap.size (.slice fa l.length fc) (vsl B o cap l) ∧ Below w.heap.size w wr ∧ QB + 1 ≤ wr.heap.size) (fun iv _ => l.length - (intOf iv).toNat)
    case atStart => exact ⟨0, .slice none 0 0, [], Nat.zero_le _, rfl, Rowd.nil _ _, NQc.out, NRc.out, NPc.out, OPc.out, Bc.out, NQc.out.1⟩
    case round =>
      obtain ⟨k, fv, row, hk, rfl, rw0, nq0, nr0, np0, op0, bb0, sz0⟩ := hrel
      rename World => wr
      have RW := Lib.hid rw0
      have NQ := Lib.hid nq0
      have NR := Lib.hid nr0
      have NP := Lib.hid np0
      have OP := Lib.hid op0
      have BB := Lib.hid bb0
      have SZ := Lib.hid sz0
      clear rw0 nq0 nr0 np0 op0 bb0 sz0 NRc NPc OPc NQc Bc
      obtain ⟨fva, fvc, ef⟩ := ownF_form RW.out.2.1
      rw [RW.out.1, List.length_map, List.length_take, Nat.min_eq_left hk] at ef
      subst ef
      by_cases c : k < l.length
      · obtain ⟨A, G, eg⟩ : ∃ A G, l[k]? = some (A, G) := ⟨l[k].1, l[k].2, List.getElem?_eq_getElem c⟩
        have hin := IN.out.2.2.2.2 (A, G) (List.mem_of_getElem? eg)
        have l88 := IN.out.2.2.2.1
        simp only at hin
        obtain ⟨i1, i2, i3⟩ := hin
        have e1 : decide ((k : Int) < (l.length : Int)) = true := decide_eq_true (by omega)
        obtain ⟨ga, gc, ea, hga, ec⟩ := ownP_cell OP.out (j := k) (by rw [vsl_len]; exact c)
        rw [vsl_len] at ea
        obtain ⟨rfl, rfl⟩ : fa = some ⟨ga, 0, none⟩ ∧ fc = gc := by cases ea; exact ⟨rfl, rfl⟩
        have ec2 : wr.cell? ⟨ga, k, none⟩ = some (.slice (some ⟨B, o + A, none⟩) G (cap - A)) := by rw [ec]; simp [vsl, eg]
        clear ec ea hga
        have HXr := HX.out.below BB.out
        have HN := Lib.hid (number_at (cap - A) HXr A 2 (by omega) (by omega))
        have la := gt_lt HXr.2.1 A 2
        have U2 : IntKind.i64.wrap (gt f A 2 : Int) = (gt f A 2 : Int) := wrap_i64 (by omega) (by omega)
        have bq : w.heap.size ≤ QB := by have := zw; omega
        have b0 : Below wr.heap.size wr wr.drew := (brefl wr).drew
        have HS := part_sl (HXr.below b0) (x := A + 4) (y := A + G) (c := cap - A - 4) (by omega) (by omega) (by omega) (by omega) (by omega)
        rw [← Nat.add_assoc] at HS
        have es : A + G - (A + 4) = G - 4 := by omega
        have HC := Lib.hid (Clone_c HS)
        rw [es] at HC
        have ln : (l.take (k + 1)).map (fdAt f) = (l.take k).map (fdAt f) ++ [((gt f A 2 : Int), bl (fun i => f (A + 4 + i)) (G - 4))] := by
          rw [List.take_add_one, eg]; simp [fdAt]
        have nofv : Hid (∀ g, g < QB + 1 → (Value.slice fva k fvc).ownBlock ≠ some g) := Lib.hid fun g hg e => by have := (RW.out.2.1.1.lt g e).1; omega
        have HC := Lib.hid (HC.out.mono (R' := fun e w' => ∃ va mb vc va' m' vc' w3, e = .returned (.slice va mb vc) ∧
            (Builtin.append_ #[26, 26] 26 #[.slice fva k fvc, .slice (some ⟨w'.heap.size, 0, none⟩) 1 1]).run Try.prog (w'.alloc (.cells #[.int .i64 (gt f A 2 : Nat), .slice va mb vc] 51)) = .ok (.slice va' m' vc') w3 ∧
            w'.cell? ⟨QB, 13, none⟩ = some (.slice fva k fvc) ∧ (w'.alloc (.cells #[.int .i64 (gt f A 2 : Nat), .slice va mb vc] 51)).cell? ⟨QB, 13, none⟩ = some (.slice fva k fvc) ∧
            w3.cell? ⟨QB, 13, none⟩ = some (.slice fva k fvc) ∧ w3.frozen? ⟨QB, 13, none⟩ = false ∧
            Hid (Rowd (w3.setCell ⟨QB, 13, none⟩ (.slice va' m' vc')) (QB + 1) (.slice va' m' vc') (row ++ [((gt f A 2 : Int), .slice va mb vc)]) ((l.take (k + 1)).map (fdAt f)) ∧
              Blk (w3.setCell ⟨QB, 13, none⟩ (.slice va' m' vc')) QB [.int .i64 (hd f).leap, .int .i64 (hd f).ver, .int .i64 (hd f).mode, .int .i64 (hd f).strat, .int .i64 (hd f).poll, .int .i64 (hd f).prec, .int .u32 ((hd f).rd : Nat), .int .u32 ((hd f).rs : Nat), .int .u32 ((hd f).rid : Nat), .int .u64 ((hd f).tref : Nat), .int .u64 ((hd f).torg : Nat), .int .u64 ((hd f).trec : Nat), .int .u64 ((hd f).txm : Nat), .slice va' m' vc', .int .i64 (au (n - a)), .int .u32 0, .slice none 0 0] ∧
              Blk (w3.setCell ⟨QB, 13, none⟩ (.slice va' m' vc')) w.heap.size [.int .i64 0, .int .i64 0, .int .i64 0, .int .i64 0, .int .i64 0, .int .i64 0, .int .u32 0, .int .u32 0, .int .u32 0, .int .u64 0, .int .u64 0, .int .u64 0, .int .u64 0, .slice none 0 0, .int .i64 0, .int .u32 0, .slice none 0 0] ∧ Blk (w3.setCell ⟨QB, 13, none⟩ (.slice va' m' vc')) w2.heap.size [.slice (some ⟨B, o, none⟩) 48 cap, .slice (some ⟨ga, 0, none⟩) l.length fc, .slice ad (n - a) (cap - a), .int .i64 (au (n - a))] ∧
              OwnP (w3.setCell ⟨QB, 13, none⟩ (.slice va' m' vc')) w1.heap.size (.slice (some ⟨ga, 0, none⟩) l.length fc) (vsl B o cap l) ∧ Below w.heap.size w (w3.setCell ⟨QB, 13, none⟩ (.slice va' m' vc')) ∧ QB + 1 ≤ (w3.setCell ⟨QB, 13, none⟩ (.slice va' m' vc')).heap.size)) fun e w' h => by
          obtain ⟨⟨vb, rfl, ho⟩, hb⟩ := h
          have hb' : Below wr.heap.size wr w' := bstep b0 hb
          have ho' : By.Own w' wr.heap.size vb (bl (fun i => f (A + 4 + i)) (G - 4)) := ho
          obtain ⟨va, mb, vc, rfl⟩ : ∃ a m c, vb = .slice a m c := (own_form ho).elim fun a h => h.elim fun c h => ⟨a, _, c, h⟩
          have RW1 := RW.out.below hb'
          have sz := SZ.out
          have sz2 := hb'.size
          obtain ⟨v', w3, hr, oF, bF, gF⟩ := appF RW1.2.1 (gt f A 2 : Nat) (.slice va mb vc) rfl (Nat.le_trans sz sz2) (by rw [RW.out.1]; simp; omega) 26
          obtain ⟨va', m', vc', rfl⟩ : ∃ a m c, v' = .slice a m c := (ownF_form oF).elim fun a h => h.elim fun c h => ⟨a, _, c, h⟩
          have q1 := gF.blk (NQ.out.below hb') (nofv.out QB (by omega))
          have q2 := gF.blk (NR.out.below hb') (nofv.out w.heap.size (by omega))
          have q3 := gF.blk (NP.out.below hb') (nofv.out w2.heap.size (by omega))
          have q0 := ((NQ.out.below hb').2 13 _ rfl).1
          have OP1 := row_below OP.out.1 hb'
          refine ⟨va, mb, vc, va', m', vc', w3, rfl, hr, q0, ((((NQ.out.below hb').below (balloc (brefl w') _))).2 13 _ rfl).1, (q1.2 13 _ rfl).1, (q1.2 13 _ rfl).2, Lib.hid ⟨?_, blk_set q1 13 _, blk_other q2 (by omega) 13 _, blk_other q3 (by omega) 13 _, ⟨row_set (row_gr OP1 gF (rows_ne OP1 RW1.2.1.1 (by decide))) (fun e => by have := nop.out _ e; omega) 13 _, OP.out.2⟩, ((bstep BB.out hb').trans (bF.mono (by omega))).setCell (p := ⟨QB, 13, none⟩) bq _, ?_⟩⟩
          · rw [ln]
            exact (RW1.snoc (row_le ho' sz) oF gF).set (Nat.lt_succ_self QB) 13 _
          · have s3 := gF.1
            have s4 : (w3.setCell ⟨QB, 13, none⟩ (.slice va' m' vc')).heap.size = w3.heap.size := by simp
            omega)
        clear HS HXr ln b0 es
        have k1 : (4 : Int) ≤ (G : Int) := by omega
        have k2 : (2 : Int) ≤ ((cap - A : Nat) : Int) := by omega
        have k3 : (G : Int) ≤ ((cap - A : Nat) : Int) := by omega
        have k4 : ((cap - A : Nat) : Int) ≤ 9223372036854775807 := by omega
        have n4 : ¬ cap - A = 4 := by omega
        have y13 := (NQ.out.2 13 _ rfl).1
        go_wp2_with fail
        refine HN.out.mono ?_
        rintro e w9 ⟨rfl, rfl⟩
        go_upto_region 9 with fail
        go_region_law (first | (refine step_append_eq rfl (.tmp 36) (.tmp 43) 26 rfl _ _ (.slice va' m' vc') w5 rfl rfl hr ?_) | (go_simp; go_at_call 30; (with_reducible refine HC.out.mono ?_); rintro e w4 ⟨va, mb, vc, va', m', vc', w5, rfl, hr, z0, z1, z2, z3, FF⟩))
        all_goals
          go_wp2_with fail
          exact ⟨⟨k + 1, .slice va' m' vc', _, by omega, by go_num, FF.out⟩, by simp [intOf]; omega⟩
      · obtain rfl : k = l.length := by omega
        have RW9 := RW
        rw [List.take_length] at RW9
        have FQ : Hid ((pkAt f n l a).fs = l.map (fdAt f)) := Lib.hid rfl
        have c3 := (NP.out.2 3 _ rfl).1
        by_cases cm : au (n - a) = 2
        · have em : (au (n - a) == 2) = true := by simpa using cm
          have m20 : 20 ≤ n - a := by
            unfold au at cm
            split at cm
            · cases cm
            · split at cm
              · cases cm
              · split at cm
                · omega
                · cases cm
          obtain rfl := had (by omega)
          have DQ : Hid ((pkAt f n l a).dig = bl (fun i => f (a + 4 + i)) (n - (a + 4))) := Lib.hid (by unfold pkAt; simp only; rw [if_pos cm])
          have PQ : Hid (∀ v, [.int .i64 (hd f).leap, .int .i64 (hd f).ver, .int .i64 (hd f).mode, .int .i64 (hd f).strat, .int .i64 (hd f).poll, .int .i64 (hd f).prec, .int .u32 ((hd f).rd : Nat), .int .u32 ((hd f).rs : Nat), .int .u32 ((hd f).rid : Nat), .int .u64 ((hd f).tref : Nat), .int .u64 ((hd f).torg : Nat), .int .u64 ((hd f).trec : Nat), .int .u64 ((hd f).txm : Nat), .slice fva l.length fvc, .int .i64 (au (n - a)), .int .u32 (gt f a 4 : Nat), v] = pvs (pkAt f n l a) (.slice fva l.length fvc) v) := Lib.hid (fun v => by unfold pkAt; simp only [pvs]; rw [if_pos cm])
          have HXr := HX.out.below BB.out
          have HN := Lib.hid (number_at (cap - a) HXr a 4 (by omega) (by omega))
          have la := gt_lt HXr.2.1 a 4
          have U4 : IntKind.u32.wrap (gt f a 4 : Int) = (gt f a 4 : Int) := wrap_u32 (by omega) (by omega)
          have c2 := (NP.out.2 2 _ rfl).1
          have f15 := (NQ.out.2 15 _ rfl).2
          have y15 := (NQ.out.2 15 _ rfl).1
          have szq := Lib.hid (show (wr.setCell ⟨QB, 15, none⟩ (.int .u32 (gt f a 4 : Nat))).heap.size = wr.heap.size by simp)
          have bq : w.heap.size ≤ QB := by have := zw; omega
          have N1 := Lib.hid (blk_set NQ.out 15 (.int .u32 (gt f a 4 : Nat)))
          have R1 := Lib.hid (blk_other NR.out (show w.heap.size ≠ QB by omega) 15 (.int .u32 (gt f a 4 : Nat)))
          have P1 := Lib.hid (blk_other NP.out (show w2.heap.size ≠ QB by omega) 15 (.int .u32 (gt f a 4 : Nat)))
          have W1 := Lib.hid (RW9.out.set (Nat.lt_succ_self QB) 15 (.int .u32 (gt f a 4 : Nat)))
          have B1 := Lib.hid (BB.out.setCell (p := ⟨QB, 15, none⟩) bq (.int .u32 (gt f a 4 : Nat)))
          have HS := part_sl (HX.out.below B1.out) (x := a + 4) (y := n) (c := cap - a - 4) (by omega) (Nat.le_refl _) (by omega) (by omega) (by omega)
          rw [← Nat.add_assoc] at HS
          have es : n - (a + 4) = n - a - 4 := by omega
          have HC := Lib.hid (Clone_c HS)
          rw [es] at HC
          clear HS HXr
          have k1 : (4 : Int) ≤ ((cap - a : Nat) : Int) := by omega
          have k2 : (4 : Int) ≤ ((n - a : Nat) : Int) := by omega
          have k3 : ((n - a : Nat) : Int) ≤ ((cap - a : Nat) : Int) := by omega
          have k4 : ((cap - a : Nat) : Int) ≤ 9223372036854775807 := by omega
          have n4 : ¬ cap - a = 4 := by omega
          clear cm had
          go_wp2_with fail
          refine HN.out.mono ?_
          rintro e w9 ⟨rfl, rfl⟩
          have c2 := (P1.out.2 2 _ rfl).1
          go_wp2_with fail
          refine HC.out.mono ?_
          rintro e wk ⟨⟨v, rfl, ho⟩, hb⟩
          rw [szq.out] at ho
          have nov : v.ownBlock ≠ some QB := fun e => by
            have := (ho.lt QB e).1
            have := SZ.out
            omega
          obtain ⟨va, m9, vc, ev⟩ : ∃ a m c, v = .slice a m c := (own_form ho).elim fun a h => h.elim fun c h => ⟨a, _, c, h⟩
          have OV := Lib.hid ho
          subst ev
          have N2 := N1.out.below hb
          have f16 := (N2.2 16 _ rfl).2
          have y16 := (N2.2 16 _ rfl).1
          have NQ9 := Lib.hid (blk_set N2 16 (.slice va m9 vc))
          have PQv := PQ.out (.slice va m9 vc)
          simp only [List.set] at NQ9
          rw [PQv] at NQ9
          have NR9 := Lib.hid (blk_other (R1.out.below hb) (show w.heap.size ≠ QB by omega) 16 (.slice va m9 vc))
          have BB9 := Lib.hid ((bstep B1.out hb).setCell (p := ⟨QB, 16, none⟩) bq (.slice va m9 vc))
          have RW9 := Lib.hid ((W1.out.below hb).set (Nat.lt_succ_self QB) 16 (.slice va m9 vc))
          have OD9 := Lib.hid (show By.Own _ (QB + 1) _ _ from row_set (row_le ho SZ.out) nov 16 (.slice va m9 vc))
          rw [← es, ← DQ.out] at OD9
          clear N2 PQv ho nov
          have ltQ : w.heap.size < QB + 1 := by omega
          have NF := Lib.hid (Blk.over (NR9.out) (pvs (pkAt f n l a) (.slice fva l.length fvc) (.slice va m9 vc)) rfl)
          have BF := Lib.hid (below_over (Nat.le_refl _) (pvs (pkAt f n l a) (.slice fva l.length fvc) (.slice va m9 vc)) 0 (BB9.out))
          have RF := Lib.hid (RW9.out.over ltQ (pvs (pkAt f n l a) (.slice fva l.length fvc) (.slice va m9 vc)))
          have OF := Lib.hid (show By.Own _ _ _ _ from row_over OD9.out ltQ (pvs (pkAt f n l a) (.slice fva l.length fvc) (.slice va m9 vc)))
          have SE := Blk.run (P := Try.prog) (NR9.out) (pvs (pkAt f n l a) (.slice fva l.length fvc) (.slice va m9 vc)) rfl (pvs_one _ _ _ rfl rfl)
          generalize (wk.setCell ⟨QB, 16, none⟩ (.slice va m9 vc)).setCells w.heap.size 0 (pvs (pkAt f n l a) (.slice fva l.length fvc) (.slice va m9 vc)) = wz at *
          go_upto_region 14 with fail
          go_wp2_with (refine wpList_load_mid rfl 30 _ rfl _ 0 rfl (pvs (pkAt f n l a) (.slice fva l.length fvc) (.slice va m9 vc)) _ NQ9.out.range Try.underlying30 rfl (by rw [pvs_len]; exact info_pk) ?_)
          exact bodyPost_ret (v := .tuple #[.agg (pvs (pkAt f n l a) (.slice fva l.length fvc) (.slice va m9 vc)).toArray, .int .i64 0]) (results_cell_slot rfl _ _ w.heap.size _ _ _ rfl rfl NF.out.range Try.underlying30 rfl (by rw [pvs_len]; exact info_pk)) rfl ⟨⟨.slice fva l.length fvc, (.slice va m9 vc), row, rfl, by rw [FQ.out]; exact RF.out.le (by omega), row_le OF.out (by omega)⟩, BF.out⟩
        · have em : (au (n - a) == 2) = false := by simpa using cm
          have DQ : Hid ((pkAt f n l a).dig = []) := Lib.hid (by unfold pkAt; simp only; rw [if_neg cm])
          have PQ : Hid ([.int .i64 (hd f).leap, .int .i64 (hd f).ver, .int .i64 (hd f).mode, .int .i64 (hd f).strat, .int .i64 (hd f).poll, .int .i64 (hd f).prec, .int .u32 ((hd f).rd : Nat), .int .u32 ((hd f).rs : Nat), .int .u32 ((hd f).rid : Nat), .int .u64 ((hd f).tref : Nat), .int .u64 ((hd f).torg : Nat), .int .u64 ((hd f).trec : Nat), .int .u64 ((hd f).txm : Nat), .slice fva l.length fvc, .int .i64 (au (n - a)), .int .u32 0, .slice none 0 0] = pvs (pkAt f n l a) (.slice fva l.length fvc) (.slice none 0 0)) := Lib.hid (by unfold pkAt; simp only [pvs]; rw [if_neg cm]; rfl)
          clear cm
          have NQ9 := NQ
          rw [PQ.out] at NQ9
          have OD9 := Lib.hid (By.Own.nil wr (QB + 1))
          rw [← DQ.out] at OD9
          have ltQ : w.heap.size < QB + 1 := by omega
          have NF := Lib.hid (Blk.over (NR.out) (pvs (pkAt f n l a) (.slice fva l.length fvc) (.slice none 0 0)) rfl)
          have BF := Lib.hid (below_over (Nat.le_refl _) (pvs (pkAt f n l a) (.slice fva l.length fvc) (.slice none 0 0)) 0 (BB.out))
          have RF := Lib.hid (RW9.out.over ltQ (pvs (pkAt f n l a) (.slice fva l.length fvc) (.slice none 0 0)))
          have OF := Lib.hid (show By.Own _ _ _ _ from row_over OD9.out ltQ (pvs (pkAt f n l a) (.slice fva l.length fvc) (.slice none 0 0)))
          have SE := Blk.run (P := Try.prog) (NR.out) (pvs (pkAt f n l a) (.slice fva l.length fvc) (.slice none 0 0)) rfl (pvs_one _ _ _ rfl rfl)
          generalize wr.setCells w.heap.size 0 (pvs (pkAt f n l a) (.slice fva l.length fvc) (.slice none 0 0)) = wz at *
          go_upto_region 14 with fail
          go_wp2_with (refine wpList_load_mid rfl 30 _ rfl _ 0 rfl (pvs (pkAt f n l a) (.slice fva l.length fvc) (.slice none 0 0)) _ NQ9.out.range Try.underlying30 rfl (by rw [pvs_len]; exact info_pk) ?_)
          exact bodyPost_ret (v := .tuple #[.agg (pvs (pkAt f n l a) (.slice fva l.length fvc) (.slice none 0 0)).toArray, .int .i64 0]) (results_cell_slot rfl _ _ w.heap.size _ _ _ rfl rfl NF.out.range Try.underlying30 rfl (by rw [pvs_len]; exact info_pk)) rfl ⟨⟨.slice fva l.length fvc, (.slice none 0 0), row, rfl, by rw [FQ.out]; exact RF.out.le (by omega), row_le OF.out (by omega)⟩, BF.out⟩
end Go.Proofs.Ytmjbnbjkpimjmaa.Wi
