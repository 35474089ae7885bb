/-
  sundialref09.Same of a packet and itself.
  Conditions: none.
-/
import Derived.Test.YtmjbnbjkpimjmaaWiV
import Derived.Deep.RegionHeld3
namespace Go.Proofs.Ytmjbnbjkpimjmaa.Wi
open Go.RowKit Go.ChangeShapes Go.WideShapes Go.ChangeAt Go.Joins By
set_option linter.unusedVariables false
set_option linter.unusedSimpArgs false

set_option maxRecDepth 100000 in
set_option maxHeartbeats 8000000 in
theorem Same_true {w : World} {p : Pk} {fv dv fv' dv' : Value} {V V' : Nat → Value} (P : Pm w p fv dv V) (Q : Pm w p fv' dv' V') : Calls Try.prog 17 #[PV p fv dv, PV p fv' dv'] w fun e w' => e = .returned (.bool true) ∧ Below w.heap.size w w' := by
  obtain ⟨F, D, K⟩ := P
  obtain ⟨F', D', K'⟩ := Q
  obtain ⟨fa, fc, rfl⟩ := F.form
  obtain ⟨da, dc, rfl⟩ := D.form
  obtain ⟨fa', fc', rfl⟩ := F'.form
  obtain ⟨da', dc', rfl⟩ := D'.form
  have BB := Lib.hid (balloc (balloc (brefl w) (.cells #[.int .i64 p.leap, .int .i64 p.ver, .int .i64 p.mode, .int .i64 p.strat, .int .i64 p.poll, .int .i64 p.prec, .int .u32 (p.rd : Nat), .int .u32 (p.rs : Nat), .int .u32 (p.rid : Nat), .int .u64 (p.tref : Nat), .int .u64 (p.torg : Nat), .int .u64 (p.trec : Nat), .int .u64 (p.txm : Nat), .slice fa p.fs.length fc, .int .i64 p.auth, .int .u32 (p.key : Nat), .slice da p.dig.length dc] 30)) (.cells #[.int .i64 p.leap, .int .i64 p.ver, .int .i64 p.mode, .int .i64 p.strat, .int .i64 p.poll, .int .i64 p.prec, .int .u32 (p.rd : Nat), .int .u32 (p.rs : Nat), .int .u32 (p.rid : Nat), .int .u64 (p.tref : Nat), .int .u64 (p.torg : Nat), .int .u64 (p.trec : Nat), .int .u64 (p.txm : Nat), .slice fa' p.fs.length fc', .int .i64 p.auth, .int .u32 (p.key : Nat), .slice da' p.dig.length dc'] 30))
  have NP := Lib.hid ((Blk.new' w #[.int .i64 p.leap, .int .i64 p.ver, .int .i64 p.mode, .int .i64 p.strat, .int .i64 p.poll, .int .i64 p.prec, .int .u32 (p.rd : Nat), .int .u32 (p.rs : Nat), .int .u32 (p.rid : Nat), .int .u64 (p.tref : Nat), .int .u64 (p.torg : Nat), .int .u64 (p.trec : Nat), .int .u64 (p.txm : Nat), .slice fa p.fs.length fc, .int .i64 p.auth, .int .u32 (p.key : Nat), .slice da p.dig.length dc] 30).below (balloc (brefl _) (.cells #[.int .i64 p.leap, .int .i64 p.ver, .int .i64 p.mode, .int .i64 p.strat, .int .i64 p.poll, .int .i64 p.prec, .int .u32 (p.rd : Nat), .int .u32 (p.rs : Nat), .int .u32 (p.rid : Nat), .int .u64 (p.tref : Nat), .int .u64 (p.torg : Nat), .int .u64 (p.trec : Nat), .int .u64 (p.txm : Nat), .slice fa' p.fs.length fc', .int .i64 p.auth, .int .u32 (p.key : Nat), .slice da' p.dig.length dc'] 30)))
  have NQ := Lib.hid (Blk.new' (w.alloc (.cells #[.int .i64 p.leap, .int .i64 p.ver, .int .i64 p.mode, .int .i64 p.strat, .int .i64 p.poll, .int .i64 p.prec, .int .u32 (p.rd : Nat), .int .u32 (p.rs : Nat), .int .u32 (p.rid : Nat), .int .u64 (p.tref : Nat), .int .u64 (p.torg : Nat), .int .u64 (p.trec : Nat), .int .u64 (p.txm : Nat), .slice fa p.fs.length fc, .int .i64 p.auth, .int .u32 (p.key : Nat), .slice da p.dig.length dc] 30)) #[.int .i64 p.leap, .int .i64 p.ver, .int .i64 p.mode, .int .i64 p.strat, .int .i64 p.poll, .int .i64 p.prec, .int .u32 (p.rd : Nat), .int .u32 (p.rs : Nat), .int .u32 (p.rid : Nat), .int .u64 (p.tref : Nat), .int .u64 (p.torg : Nat), .int .u64 (p.trec : Nat), .int .u64 (p.txm : Nat), .slice fa' p.fs.length fc', .int .i64 p.auth, .int .u32 (p.key : Nat), .slice da' p.dig.length dc'] 30)
  rw [show (w.alloc (.cells #[.int .i64 p.leap, .int .i64 p.ver, .int .i64 p.mode, .int .i64 p.strat, .int .i64 p.poll, .int .i64 p.prec, .int .u32 (p.rd : Nat), .int .u32 (p.rs : Nat), .int .u32 (p.rid : Nat), .int .u64 (p.tref : Nat), .int .u64 (p.torg : Nat), .int .u64 (p.trec : Nat), .int .u64 (p.txm : Nat), .slice fa p.fs.length fc, .int .i64 p.auth, .int .u32 (p.key : Nat), .slice da p.dig.length dc] 30)).heap.size = w.heap.size + 1 by simp] at NQ
  have C1 := D.conv BB.out
  have C2 := D'.conv BB.out
  obtain ⟨fa0, fc0, ef, g1, g2, g3, g4⟩ := F
  cases ef
  obtain ⟨fa1, fc1, ef, h1, h2, h3, h4⟩ := F'
  cases ef
  have G3 := Lib.hid g3
  have G4 := Lib.hid g4
  have H3 := Lib.hid h3
  have H4 := Lib.hid h4
  clear g3 g4 h3 h4 D D' K K'
  go_enter Try.func17, Try.ntmps17
  go_wp2_with fail
  clear C1 C2
  have z2 : w.heap.size + 1 < ((w.alloc (.cells #[.int .i64 p.leap, .int .i64 p.ver, .int .i64 p.mode, .int .i64 p.strat, .int .i64 p.poll, .int .i64 p.prec, .int .u32 (p.rd : Nat), .int .u32 (p.rs : Nat), .int .u32 (p.rid : Nat), .int .u64 (p.tref : Nat), .int .u64 (p.torg : Nat), .int .u64 (p.trec : Nat), .int .u64 (p.txm : Nat), .slice fa p.fs.length fc, .int .i64 p.auth, .int .u32 (p.key : Nat), .slice da p.dig.length dc] 30)).alloc (.cells #[.int .i64 p.leap, .int .i64 p.ver, .int .i64 p.mode, .int .i64 p.strat, .int .i64 p.poll, .int .i64 p.prec, .int .u32 (p.rd : Nat), .int .u32 (p.rs : Nat), .int .u32 (p.rid : Nat), .int .u64 (p.tref : Nat), .int .u64 (p.torg : Nat), .int .u64 (p.trec : Nat), .int .u64 (p.txm : Nat), .slice fa' p.fs.length fc', .int .i64 p.auth, .int .u32 (p.key : Nat), .slice da' p.dig.length dc'] 30)).heap.size := by simp
  generalize (w.alloc (.cells #[.int .i64 p.leap, .int .i64 p.ver, .int .i64 p.mode, .int .i64 p.strat, .int .i64 p.poll, .int .i64 p.prec, .int .u32 (p.rd : Nat), .int .u32 (p.rs : Nat), .int .u32 (p.rid : Nat), .int .u64 (p.tref : Nat), .int .u64 (p.torg : Nat), .int .u64 (p.trec : Nat), .int .u64 (p.txm : Nat), .slice fa p.fs.length fc, .int .i64 p.auth, .int .u32 (p.key : Nat), .slice da p.dig.length dc] 30)).alloc (.cells #[.int .i64 p.leap, .int .i64 p.ver, .int .i64 p.mode, .int .i64 p.strat, .int .i64 p.poll, .int .i64 p.prec, .int .u32 (p.rd : Nat), .int .u32 (p.rs : Nat), .int .u32 (p.rid : Nat), .int .u64 (p.tref : Nat), .int .u64 (p.torg : Nat), .int .u64 (p.trec : Nat), .int .u64 (p.txm : Nat), .slice fa' p.fs.length fc', .int .i64 p.auth, .int .u32 (p.key : Nat), .slice da' p.dig.length dc'] 30) = w2 at *
  go_loopw [5] (fun iv wr => ∃ k : Nat, k ≤ p.fs.length ∧ iv = .int .i64 k ∧ Below w2.heap.size w2 wr) (fun iv _ => p.fs.length - (intOf iv).toNat)
  case atStart => exact ⟨0, Nat.zero_le _, rfl, brefl w2⟩
  case round =>
    obtain ⟨k, hk, rfl, hb⟩ := hrel
    rename World => wr
    have B2 := Lib.hid hb
    have y13 := ((NP.out.below hb).2 13 _ rfl).1
    have x13 := ((NQ.out.below hb).2 13 _ rfl).1
    clear hb
    by_cases c : k < p.fs.length
    · have f1 : decide ((k : Int) < (p.fs.length : Int)) = true := decide_eq_true (by omega)
      obtain ⟨b, o, rfl, lb, cb⟩ := G3.out (by omega)
      obtain ⟨b', o', rfl, lb', cb'⟩ := H3.out (by omega)
      have BX := bstep BB.out B2.out
      obtain ⟨t1, t2⟩ := (cb k c).below lb BX
      obtain ⟨t3, t4⟩ := (cb' k c).below lb' BX
      have s1 := G4.out k c
      have s2 := H4.out k c
      obtain ⟨ua, uc, e1⟩ := s1.form
      obtain ⟨ua', uc', e2⟩ := s2.form
      rw [e1] at t2 s1
      rw [e2] at t4 s2
      have S1 := Lib.hid s1
      have S2 := Lib.hid s2
      have k1 : (k : Int) < (p.fs.length : Int) := by omega
      clear cb cb' lb lb' s1 s2 G3 H3 G4 H4
      generalize p.fs.getD k f0 = fd at *
      obtain ⟨tx, bd⟩ := fd
      simp only at t1 t2 t3 t4 e1 e2
      generalize hS : bs8 bd = SB
      have C1 : ∀ j, (convert 28 9 (.slice ua bd.length uc)).run Try.prog (wr.drewN j) = .ok (.string SB) (wr.drewN j) := fun j => by rw [← hS]; exact S1.out.conv (bdrew BX j)
      have C2 : ∀ j, (convert 28 9 (.slice ua' bd.length uc')).run Try.prog (wr.drewN j) = .ok (.string SB) (wr.drewN j) := fun j => by rw [← hS]; exact S2.out.conv (bdrew BX j)
      generalize bd.length = m at *
      clear BX hS e1 e2
      go_upto_region 6 with fail
      go_quiet (fail)
      go_wp2_with fail
      exact ⟨⟨k + 1, by omega, by go_num, bdrew B2.out nq⟩, by simp [intOf]; omega⟩
    · have f1 : decide ((k : Int) < (p.fs.length : Int)) = false := decide_eq_false (by omega)
      go_wp2_with fail
      go_ret
      exact ⟨rfl, bstep BB.out B2.out⟩
end Go.Proofs.Ytmjbnbjkpimjmaa.Wi
