/-
  The contract of words.Split.
  Conditions: no more than 2^40 bytes.
  Whole numbers: the contracts of words.digits and Number; a call whose answer the document fixes.
  A call whose answer the document fixes.
-/
import Derived.Test.YtoecgabdjpgleaaGreatDoorWd
namespace Go.Proofs.YtoecgabdjpgleaaGreatDoor.Wd
open Go.ChangeShapes Go.WideShapes Go.ChangeAt Go.RowKit Go.Joins By
set_option linter.unusedVariables false
set_option linter.unusedSimpArgs false

/-- characters, one behind the other: where the first one stands that may not stand there, or how far the line is cut. -/
def run : List (ByteArray × Bool) → Nat → CS → Nat ⊕ CS
  | [], _, S => .inr S
  | c :: l, k, S => if c.2 = true then .inl k else match stp c.1 k S with
    | none => .inl k
    | some S' => run l (k + 1) S'
/-- what Split gives: the fault's place, or the words. -/
def spR (s : ByteArray) : Int ⊕ List W3 :=
  match run (chars s) 0 cs0 with
  | .inl k => .inl k
  | .inr S => if S.shut = true then .inr S.last.ws else .inl S.wd.c
def fWhy : Int ⊕ List W3 → Int
  | .inl _ => 4
  | .inr _ => 0
def fChar : Int ⊕ List W3 → Int
  | .inl k => k
  | .inr _ => 0
def fWords : Int ⊕ List W3 → List W3
  | .inl _ => []
  | .inr l => l

theorem stp_size {t : ByteArray} {k : Nat} {S S' : CS} (h : stp t k S = some S') : S'.tx.size ≤ S.tx.size + t.size ∧ S'.ws.length ≤ S.ws.length + 1 := by
  unfold stp at h
  split at h <;> repeat' split at h
  all_goals first
    | (cases h; done)
    | (simp only [Option.some.injEq] at h; subst h; repeat' split)
  all_goals try simp only [CS.to, CS.add, CS.fin, CS.beg, List.length_append, List.length_singleton, ByteArray.size_append, emp]
  all_goals first | omega | (constructor <;> first | omega | (show 0 ≤ _; omega))
theorem Cu.keep {w w' : World} {B b : Nat} {S : CS} (h : Cu w B b S) (hk : ∀ (k : Nat) (c : Array Value) (T : TypeId) (fz : Nat × Nat), w.heap[k]? = some (.cells c T fz) → w'.heap[k]? = some (.cells c T fz)) : Cu w' B b S := by
  obtain ⟨hB, vw, ad, vb, F, ow, ob, hz⟩ := h
  refine ⟨hB, vw, ad, vb, ⟨hk _ _ _ _ F.heap, F.kind, F.room, F.lies, F.addr⟩, ?_, ?_, hz⟩
  · refine ⟨ow.1, ow.2.imp id ?_⟩
    rintro ⟨g, cap, cur, hv, hg, hh, r⟩
    exact ⟨g, cap, cur, hv, hg, hk _ _ _ _ hh, r⟩
  · refine ⟨ob.1, ob.2.imp id ?_⟩
    rintro ⟨g, cap, cur, hv, hg, hh, r⟩
    exact ⟨g, cap, cur, hv, hg, hk _ _ _ _ hh, r⟩
theorem Cu.iterAt {w : World} {B b : Nat} {S : CS} (h : Cu w B b S) {k : Nat} {s : ByteArray} {p : Nat} (hk : w.heap[k]? = some (.stringIter s p)) (q : Nat) : Cu (w.iterAt k s q) B b S :=
  h.keep fun j c T fz e => by
    rw [Lib.iterAt_other]
    · exact e
    · rintro rfl
      rw [hk] at e; cases e
theorem Cu.alloc {w : World} {B b : Nat} {S : CS} (h : Cu w B b S) (o : Obj) : Cu (w.alloc o) B b S :=
  h.keep fun j c T fz e => (Lib.alloc_old w o j (Array.getElem?_eq_some_iff.1 e).1).trans e
def fa0 : Obj := .cells #[.int .i64 0, .int .i64 0, .int .i64 0] 59
theorem fa_cells {w : World} {b : Nat} (h : w.heap[b]? = some fa0) : w.cell? ⟨b, 0, none⟩ = some (.int .i64 0) ∧ w.cell? ⟨b, 1, none⟩ = some (.int .i64 0) ∧ w.cell? ⟨b, 2, none⟩ = some (.int .i64 0) ∧ w.frozen? ⟨b, 0, none⟩ = false ∧ w.frozen? ⟨b, 1, none⟩ = false ∧ w.frozen? ⟨b, 2, none⟩ = false := by
  unfold fa0 at h
  refine ⟨?_, ?_, ?_, ?_, ?_, ?_⟩ <;> simp [World.cell?, World.frozen?, h]
theorem OwnR.le {w : World} {base base' : Nat} {v : Value} {l : List W3} (h : OwnR w base v l) (hb : base' ≤ base) : OwnR w base' v l :=
  ⟨h.1, h.2.elim Or.inl (fun ⟨g, cap, cur, hv, hg, r⟩ => Or.inr ⟨g, cap, cur, hv, Nat.le_trans hb hg, r⟩)⟩
/-- the world in which a line is cut. -/
structure Si (w wr : World) (s : ByteArray) (p : Nat) (S : CS) : Prop where
  cut : Cu wr (w.heap.size + 1) (w.heap.size + 1) S
  iter : wr.heap[w.heap.size + 1 + 1]? = some (.stringIter s p)
  fault : wr.heap[w.heap.size]? = some fa0
  below : Below w.heap.size w wr
theorem Si.start (w : World) (s : ByteArray) : Si w (((w.alloc fa0).alloc (.cells #[.int .i64 0, .slice none 0 0, .string ⟨#[]⟩, .int .i64 0, .bool false, .pointer none, .slice none 0 0] 101)).iter s 0) s 0 cs0 := by
  have c := Cu.new (w.alloc fa0) (w.heap.size + 1) (by simp)
  rw [show (w.alloc fa0).heap.size = w.heap.size + 1 from by simp] at c
  have i := World.iter_heap ((w.alloc fa0).alloc (.cells #[.int .i64 0, .slice none 0 0, .string ⟨#[]⟩, .int .i64 0, .bool false, .pointer none, .slice none 0 0] 101)) s 0
  refine ⟨c.alloc _, by simpa using i, ?_, balloc (balloc (balloc (brefl w) _) _) _⟩
  have a : (w.alloc fa0).heap[w.heap.size]? = some fa0 := heap_alloc_new w fa0
  have b := (Lib.alloc_old (w.alloc fa0) (.cells #[.int .i64 0, .slice none 0 0, .string ⟨#[]⟩, .int .i64 0, .bool false, .pointer none, .slice none 0 0] 101) w.heap.size (by simp)).trans a
  exact (Lib.alloc_old _ (.stringIter s 0) w.heap.size (by simp; omega)).trans b
theorem Si.step {w wr : World} {s : ByteArray} {p : Nat} {S : CS} (h : Si w wr s p S) (q : Nat) : Si w (wr.iterAt (w.heap.size + 1 + 1) s q) s q S :=
  ⟨h.cut.iterAt h.iter q, Lib.iterAt_heap _ _ _ _ _ h.iter, (Lib.iterAt_other _ _ _ _ _ (by omega)).trans h.fault, Lib.below_iterAt h.below (by omega) _ _⟩
theorem Si.next {w wr w' : World} {s : ByteArray} {p : Nat} {S S' : CS} (h : Si w wr s p S) (c : Cu w' (w.heap.size + 1) (w.heap.size + 1) S') (R : Fr (w.heap.size + 1) wr w') : Si w w' s p S' :=
  ⟨c, R.iter _ _ _ h.iter, (R.below.block _ (by omega)).trans h.fault, h.below.trans (R.below.mono (by omega))⟩
theorem Si.faultOf {w wr w' : World} {s : ByteArray} {p : Nat} {S : CS} (h : Si w wr s p S) (R : Fr (w.heap.size + 1) wr w') : w'.heap[w.heap.size]? = some fa0 ∧ Below w.heap.size w w' :=
  ⟨(R.below.block _ (by omega)).trans h.fault, h.below.trans (R.below.mono (by omega))⟩

theorem chL_at (s : ByteArray) (f p : Nat) (h : p < s.size) : chL s (f + 1) p = (ct s p, wr1 s p) :: chL s f (p + cw s p) := by rw [chL, if_pos h]; rfl
theorem chL_end (s : ByteArray) (f p : Nat) (h : ¬ p < s.size) : chL s f p = [] := by
  cases f with
  | zero => rfl
  | succ f => rw [chL, if_neg h]

set_option maxRecDepth 100000 in
set_option maxHeartbeats 4000000 in
theorem Split_c (s : ByteArray) (w : World) (hs : s.size ≤ 1099511627776) :
    Calls Tryz.prog 23 #[.string s] w fun e w' => ∃ v, e = .returned (.tuple #[v, .agg #[.int .i64 (fWhy (spR s)), .int .i64 0, .int .i64 (fChar (spR s))]]) ∧ OwnR w' w.heap.size v (fWords (spR s)) ∧ Below w.heap.size w w' := by
  obtain ⟨R, hR⟩ : ∃ R, Hid (spR s = R) := ⟨_, Lib.hid rfl⟩
  rw [hR.out]
  have S0 := Lib.hid (Si.start w s)
  unfold fa0 at S0
  go_enter Tryz.func23, Tryz.ntmps23
  go_wp2_with fail
  go_loopw [5, 6, 7] (fun cv _ _ wr => ∃ p k f S, p ≤ s.size ∧ cv = .int .i64 (k : Nat) ∧ k ≤ p ∧ s.size ≤ p + f ∧ S.tx.size ≤ p ∧ S.ws.length ≤ k ∧ run (chars s) 0 cs0 = run (chL s f p) k S ∧ Si w wr s p S) (fun _ _ _ wr => s.size - wr.iterPos (w.heap.size + 1 + 1))
  case atStart => exact ⟨0, 0, s.size, cs0, Nat.zero_le _, rfl, Nat.le_refl _, by omega, Nat.le_refl _, Nat.le_refl _, rfl, S0.out⟩
  case round =>
    clear S0
    obtain ⟨p, k, f, S, hp, rfl, hk, hf, ht, hw, hrun, si⟩ := hrel
    rename World => wr
    have IP : Hid (wr.iterPos (w.heap.size + 1 + 1) = p) := Lib.hid (by simp [World.iterPos, si.iter])
    have HR := Lib.hid hrun
    by_cases c : p < s.size
    · have hnx := fun ty => Lib.run_next_any_at (P := Tryz.prog) wr (w.heap.size + 1 + 1) s p ty si.iter c
      obtain ⟨f', rfl⟩ : ∃ f', f = f' + 1 := ⟨f - 1, by omega⟩
      have wp := cw_pos s p
      have wl := cw_le s p c
      have CE := chL_at s f' p c
      have WE := isWrong_c (cr s p) (s.extract p s.size) (wr.iterAt (w.heap.size + 1 + 1) s (p + cw s p))
      rw [wrong_eq c] at WE
      have SP := Lib.hid (si.step (p + cw s p))
      have CT : Hid (wr1 s p = false → Ch (cr s p) (ct s p)) := Lib.hid (ch_at c)
      have CS : (ct s p).size ≤ cw s p := by
        unfold ct
        rw [ByteArray.size_extract]
        omega
      have IPN : Hid ((wr.iterAt (w.heap.size + 1 + 1) s (p + cw s p)).iterPos (w.heap.size + 1 + 1) = p + cw s p) := Lib.hid (by
        have := Lib.iterAt_heap _ _ _ _ (p + cw s p) si.iter
        simp [World.iterPos, this])
      change (∀ ty, (Instr.next (.pointer (some ⟨w.heap.size + 1 + 1, 0, none⟩)) true ty).run Tryz.prog wr = .ok (.tuple #[.bool true, .int .i64 p, .int .i32 (cr s p)]) (wr.iterAt (w.heap.size + 1 + 1) s (p + cw s p))) at hnx
      have p0 : (0 : Int) ≤ (p : Int) := by omega
      have p1 : (p : Int) ≤ (s.size : Int) := by omega
      clear si hrun
      generalize ht' : ct s p = t at *
      clear ht'
      generalize cw s p = n at *
      generalize cr s p = r at *
      generalize wr.iterAt (w.heap.size + 1 + 1) s (p + n) = w2 at *
      cases hq : wr1 s p with
      | true =>
        rw [hq] at WE CE
        have RE : Hid (R = .inl (k : Int)) := Lib.hid (by rw [← hR.out, spR, HR.out, CE, run, if_pos rfl])
        have WE := Lib.hid WE
        obtain ⟨a0, a1, a2, z0, z1, z2⟩ := fa_cells SP.out.fault
        clear CE HR hq CT
        go_wp2_with fail
        refine WE.out.mono ?_
        rintro e w3 ⟨rfl, rfl⟩
        have BZ := Lib.hid (((SP.out.below.setCell (p := ⟨w.heap.size, 0, none⟩) (Nat.le_refl _) (.int .i64 4)).setCell (p := ⟨w.heap.size, 1, none⟩) (Nat.le_refl _) (.int .i64 0)).setCell (p := ⟨w.heap.size, 2, none⟩) (Nat.le_refl _) (.int .i64 (k : Int)))
        go_wp2_with fail
        exact bodyPost_ret (v := .tuple #[.slice none 0 0, .agg #[.int .i64 4, .int .i64 0, .int .i64 k]]) (by simp [results, Tryz.results23, go_sem, a0, a1, a2]) rfl ⟨_, by rw [RE.out]; rfl, by rw [RE.out]; exact OwnR.nil _ _, BZ.out⟩
      | false =>
        have CH := CT.out hq
        rw [hq] at WE CE
        have WE := Lib.hid WE
        obtain ⟨o, hO⟩ : ∃ o, Hid (stp t k S = o) := ⟨_, Lib.hid rfl⟩
        have TC := Lib.hid (take_c SP.out.cut CH k (by omega) (by omega))
        rw [hO.out] at TC
        clear hq CT
        go_wp2_with fail
        refine WE.out.mono ?_
        rintro e w3 ⟨rfl, rfl⟩
        go_wp2_with fail
        refine TC.out.mono ?_
        intro e w4 TP
        cases o with
        | none =>
          obtain ⟨rfl, R4⟩ := TP
          obtain ⟨hf4, hb4⟩ := SP.out.faultOf R4
          have RE : Hid (R = .inl (k : Int)) := Lib.hid (by rw [← hR.out, spR, HR.out, CE, run, if_neg (fun h => Bool.false_ne_true h)]; simp only [hO.out])
          obtain ⟨a0, a1, a2, z0, z1, z2⟩ := fa_cells hf4
          have BZ := Lib.hid (((hb4.setCell (p := ⟨w.heap.size, 0, none⟩) (Nat.le_refl _) (.int .i64 4)).setCell (p := ⟨w.heap.size, 1, none⟩) (Nat.le_refl _) (.int .i64 0)).setCell (p := ⟨w.heap.size, 2, none⟩) (Nat.le_refl _) (.int .i64 (k : Int)))
          clear CE HR R4 hf4 hb4
          go_wp2_with fail
          exact bodyPost_ret (v := .tuple #[.slice none 0 0, .agg #[.int .i64 4, .int .i64 0, .int .i64 k]]) (by simp [results, Tryz.results23, go_sem, a0, a1, a2]) rfl ⟨_, by rw [RE.out]; rfl, by rw [RE.out]; exact OwnR.nil _ _, BZ.out⟩
        | some S' =>
          obtain ⟨rfl, C4, R4⟩ := TP
          have SN := Lib.hid (SP.out.next C4 R4)
          have SZ := stp_size hO.out
          have RN : Hid (run (chars s) 0 cs0 = run (chL s f' (p + n)) (k + 1) S') := Lib.hid (by rw [HR.out, CE, run, if_neg (fun h => Bool.false_ne_true h)]; simp only [hO.out])
          clear CE HR C4 R4
          go_wp2_with fail
          go_roundw
          case rel => exact ⟨p + n, k + 1, f', S', by omega, by go_num, by omega, by omega, by omega, by omega, RN.out, SN.out⟩
          case measure =>
            have e4 : w4.iterPos (w.heap.size + 1 + 1) = p + n := by simp [World.iterPos, SN.out.iter]
            rw [IP.out, e4]
            omega
    · have hnx := fun ty => Lib.run_next_end_at (P := Tryz.prog) wr (w.heap.size + 1 + 1) s p ty si.iter c
      have RN : Hid (run (chars s) 0 cs0 = .inr S) := Lib.hid (by rw [hrun, chL_end s f p c]; rfl)
      have EC := Lib.hid (end_c si.cut (by omega))
      have SP := Lib.hid si
      clear si hrun HR
      cases hsh : S.shut with
      | true =>
        have RE : Hid (R = .inr S.last.ws) := Lib.hid (by rw [← hR.out, spR, RN.out]; simp only [hsh, if_true])
        rw [hsh] at EC
        clear RN hsh
        go_wp2_with fail
        refine EC.out.mono ?_
        rintro e w4 ⟨rfl, C4, R4⟩
        obtain ⟨hf4, hb4⟩ := SP.out.faultOf R4
        obtain ⟨a0, a1, a2, z0, z1, z2⟩ := fa_cells hf4
        obtain ⟨hB, vw, ad, vb, F, ow, ob, hz⟩ := C4
        have g1 : w4.cell? ⟨w.heap.size + 1, 1, none⟩ = some vw := F.cell 1
        obtain ⟨aw, capw, ew⟩ := ownR_form ow
        have ow' : OwnR w4 w.heap.size vw S.last.ws := ow.le (by omega)
        have BZ := Lib.hid (((hb4.setCell (p := ⟨w.heap.size, 0, none⟩) (Nat.le_refl _) (.int .i64 0)).setCell (p := ⟨w.heap.size, 1, none⟩) (Nat.le_refl _) (.int .i64 0)).setCell (p := ⟨w.heap.size, 2, none⟩) (Nat.le_refl _) (.int .i64 0))
        have fne : ∀ g, vw.ownBlock = some g → g ≠ w.heap.size := fun g hg e => by
          obtain ⟨c', h'⟩ := ownR_kind ow g hg
          rw [e, hf4] at h'
          simp [fa0] at h'
        have OZ : Hid (OwnR (((w4.setCell ⟨w.heap.size, 0, none⟩ (.int .i64 0)).setCell ⟨w.heap.size, 1, none⟩ (.int .i64 0)).setCell ⟨w.heap.size, 2, none⟩ (.int .i64 0)) w.heap.size vw S.last.ws) := Lib.hid (ownR_keep ow' fun g hg => ((heap_set_other _ _ (fne g hg)).trans (heap_set_other _ _ (fne g hg))).trans (heap_set_other _ _ (fne g hg)))
        clear R4 hf4 hb4 F ow ob hz ow' fne hB
        subst ew
        go_wp2_with fail
        exact bodyPost_ret (v := .tuple #[.slice aw S.last.ws.length capw, .agg #[.int .i64 0, .int .i64 0, .int .i64 0]]) (by simp [results, Tryz.results23, go_sem, a0, a1, a2]) rfl ⟨_, by rw [RE.out]; rfl, by rw [RE.out]; exact OZ.out, BZ.out⟩
      | false =>
        have RE : Hid (R = .inl S.wd.c) := Lib.hid (by rw [← hR.out, spR, RN.out]; simp only [hsh]; rfl)
        have n1 : ¬ S.wh = 1 := fun h => by rw [CS.shut, h] at hsh; cases hsh
        have LE : S.last = S := by rw [CS.last, if_neg n1]
        rw [hsh, LE] at EC
        clear RN hsh LE n1
        go_wp2_with fail
        refine EC.out.mono ?_
        rintro e w4 ⟨rfl, C4, R4⟩
        obtain ⟨hf4, hb4⟩ := SP.out.faultOf R4
        obtain ⟨a0, a1, a2, z0, z1, z2⟩ := fa_cells hf4
        obtain ⟨vw, ad, vb, _, _, _, g3, _, _, _, _⟩ := C4.cells
        have BZ := Lib.hid ((((hb4.drew).setCell (p := ⟨w.heap.size, 0, none⟩) (Nat.le_refl _) (.int .i64 4)).setCell (p := ⟨w.heap.size, 1, none⟩) (Nat.le_refl _) (.int .i64 0)).setCell (p := ⟨w.heap.size, 2, none⟩) (Nat.le_refl _) (.int .i64 S.wd.c))
        clear R4 hf4 hb4 C4
        generalize S.wd.c = ch at *
        go_wp2_with fail
        go_region
        all_goals
          go_wp2_with fail
          exact bodyPost_ret (v := .tuple #[.slice none 0 0, .agg #[.int .i64 4, .int .i64 0, .int .i64 ch]]) (by simp [results, Tryz.results23, go_sem, a0, a1, a2]) rfl ⟨_, by rw [RE.out]; rfl, by rw [RE.out]; exact OwnR.nil _ _, BZ.out⟩
end Go.Proofs.YtoecgabdjpgleaaGreatDoor.Wd
namespace Go.Proofs.YtoecgabdjpgleaaGreatDoor.Wd
open Go.ChangeShapes Go.WideShapes Go.ChangeAt Go.RowKit Go.Joins By
set_option linter.unusedVariables false
set_option linter.unusedSimpArgs false

theorem gn_get (s : ByteArray) (p : Nat) (h : p < s.size) : (s.get! p).toNat = gn s p := by
  rw [gn, Lib.getD_get!']
theorem cr_cases (s : ByteArray) (p : Nat) (h : p < s.size) : (cr s p = gn s p ∧ cw s p = 1) ∨ (128 ≤ cr s p ∧ 128 ≤ gn s p) := by
  have g := gn_get s p h
  have d := Lib.decode_at s p
  have e1 : cr s p = (Utf8.decode s p).1 := rfl
  have e2 : cw s p = (Utf8.decode s p).2 := rfl
  rw [d] at e1 e2
  rw [g] at e1 e2
  rcases Lib.decodeN_shape (s.size - p) (gn s p) (s.get! (p + 1)).toNat (s.get! (p + 2)).toNat (s.get! (p + 3)).toNat with ⟨c, e⟩ | ⟨c1, c2, c3, cv, e⟩ | ⟨c1, c2, c3, c4, cv, cs, e⟩ | ⟨c1, c2, c3, c4, c5, cv, cw', e⟩ | e
  · rw [e] at e1 e2
    exact .inl ⟨e1, e2⟩
  · rw [e] at e1
    refine .inr ⟨by rw [e1]; exact cv, by omega⟩
  · rw [e] at e1
    refine .inr ⟨by rw [e1]; show 128 ≤ _; omega, by omega⟩
  · rw [e] at e1
    refine .inr ⟨by rw [e1]; show 128 ≤ _; omega, by omega⟩
  · by_cases c : gn s p < 128
    · have : Lib.decodeN (s.size - p) (gn s p) (s.get! (p + 1)).toNat (s.get! (p + 2)).toNat (s.get! (p + 3)).toNat = (gn s p, 1) := by unfold Lib.decodeN; rw [if_pos c]
      rw [this] at e1 e2
      exact .inl ⟨e1, e2⟩
    · rw [e] at e1
      refine .inr ⟨by rw [e1]; show 128 ≤ 65533; omega, by omega⟩
/-- one digit or more, and m at most. -/
def okd (s : ByteArray) (m : Nat) : Bool := dgs s && decide (s.size ≤ m)
theorem va_le {s : ByteArray} {k : Nat} (h : ∀ i, i < k → dig (gn s i) = true) (hk : k ≤ 10) : va s k < 10000000000 := by
  have a := va_lt k h
  have b : 10 ^ k ≤ 10 ^ 10 := Nat.pow_le_pow_right (by omega) hk
  have c : (10 : Nat) ^ 10 = 10000000000 := by decide
  omega
theorem toList_emp (s : ByteArray) : (s.toList == (⟨#[]⟩ : ByteArray).toList) = decide (s.size = 0) := by
  rw [ByteArray.toList_eq, ByteArray.toList_eq]
  rw [Bool.eq_iff_iff, beq_iff_eq, decide_eq_true_eq]
  constructor
  · intro h
    have := congrArg List.length h
    rw [Array.length_toList] at this
    exact this
  · intro h
    have h' : s.data.size = 0 := h
    have : s.data = #[] := Array.eq_empty_of_size_eq_zero h'
    rw [this]

set_option maxRecDepth 100000 in
set_option maxHeartbeats 4000000 in
theorem pdigits_c (s : ByteArray) (m : Nat) (hm : m ≤ 10) (w : World) (hs : s.size ≤ 9223372036854775807) :
    Calls Tryz.prog 75 #[.string s, .int .i64 (m : Int)] w fun e w' => e = .returned (.tuple #[.int .i64 (if okd s m = true then (va s s.size : Int) else 0), .int .i64 (if okd s m = true then 0 else 4)]) ∧ Below w.heap.size w w' := by
  obtain ⟨r, HR⟩ : ∃ r, Hid (r = (if okd s m = true then (va s s.size : Int) else 0)) := ⟨_, Lib.hid rfl⟩
  obtain ⟨z, HZ⟩ : ∃ z, Hid (z = (if okd s m = true then (0 : Int) else 4)) := ⟨_, Lib.hid rfl⟩
  rw [← HR.out, ← HZ.out]
  have BAD : Hid (okd s m = false → r = 0 ∧ z = 4) := Lib.hid (fun h => by rw [HR.out, HZ.out, h]; exact ⟨rfl, rfl⟩)
  have GOOD : Hid (okd s m = true → r = (va s s.size : Int) ∧ z = 0) := Lib.hid (fun h => by rw [HR.out, HZ.out, h]; exact ⟨rfl, rfl⟩)
  clear HR HZ
  by_cases h0 : s.size = 0
  · have e0 : (s.toList == []) = true := by
      have := toList_emp s
      rw [ByteArray.toList_eq (⟨#[]⟩)] at this
      rw [decide_eq_true h0] at this
      exact this
    obtain ⟨b1, b2⟩ := BAD.out (by rw [okd, dgs, decide_eq_false (show ¬ 0 < s.size by omega), Bool.and_false, Bool.false_and])
    clear h0
    go_enter Tryz.func75, Tryz.ntmps75
    go_wp2_with fail
    go_ret2
    exact ⟨by rw [b1, b2]; rfl, brefl w⟩
  have e0 : (s.toList == []) = false := by
    have := toList_emp s
    rw [ByteArray.toList_eq (⟨#[]⟩)] at this
    rw [decide_eq_false h0] at this
    exact this
  by_cases h1 : m < s.size
  · have e1 : decide (m < s.size) = true := decide_eq_true h1
    obtain ⟨b1, b2⟩ := BAD.out (by rw [okd, decide_eq_false (show ¬ s.size ≤ m by omega), Bool.and_false])
    clear h0 h1
    go_enter Tryz.func75, Tryz.ntmps75
    go_wp2_with fail
    go_ret2
    exact ⟨by rw [b1, b2]; rfl, brefl w⟩
  have e1 : decide (m < s.size) = false := decide_eq_false h1
  go_enter Tryz.func75, Tryz.ntmps75
  have B0 := Lib.hid (balloc (brefl w) (.stringIter s 0))
  have I0 := Lib.hid (World.iter_heap w s 0)
  go_wp2_with fail
  go_loopw [6, 8] (fun nv _ wr => ∃ k : Nat, k ≤ s.size ∧ nv = .int .i64 (va s k : Nat) ∧ (∀ j, j < k → dig (gn s j) = true) ∧ wr.heap[w.heap.size]? = some (.stringIter s k) ∧ Below w.heap.size w wr) (fun _ _ wr => s.size - wr.iterPos w.heap.size)
  case atStart => exact ⟨0, Nat.zero_le _, rfl, fun j hj => absurd hj (Nat.not_lt_zero _), I0.out, B0.out⟩
  case round =>
    clear B0 I0 e0 e1
    obtain ⟨k, hk, rfl, hno, hi, hb⟩ := hrel
    rename World => wr
    have IP : Hid (wr.iterPos w.heap.size = k) := Lib.hid (by simp [World.iterPos, hi])
    by_cases c : k < s.size
    · have hnx := fun ty => Lib.run_next_any_at (P := Tryz.prog) wr w.heap.size s k ty hi c
      change (∀ ty, (Instr.next (.pointer (some ⟨w.heap.size, 0, none⟩)) true ty).run Tryz.prog wr = .ok (.tuple #[.bool true, .int .i64 k, .int .i32 (cr s k)]) (wr.iterAt w.heap.size s (k + cw s k))) at hnx
      have CC := cr_cases s k c
      have gl := gn_lt s k
      have crl := cr_le s k
      by_cases hd : dig (cr s k) = true
      · have g1 : 48 ≤ cr s k ∧ cr s k ≤ 57 := by simpa [dig] using hd
        have EG : cr s k = gn s k ∧ cw s k = 1 := by omega
        have NY : Hid (∀ j, j < k + 1 → dig (gn s j) = true) := Lib.hid (fun j hj => by
          by_cases e : j = k
          · subst e; rw [← EG.1]; exact hd
          · exact hno j (by omega))
        have v1 := va_le hno (show k ≤ 10 by omega)
        have VS : Hid (va s (k + 1) = 10 * va s k + (cr s k - 48)) := Lib.hid (by rw [EG.1]; rfl)
        rw [EG.2] at hnx
        have HI := Lib.hid (Lib.iterAt_heap wr w.heap.size s k (k + 1) hi)
        have HB := Lib.hid (Lib.below_iterAt hb (Nat.le_refl w.heap.size) s (k + 1))
        have e48 : decide ((cr s k : Int) < 48) = false := by rw [decide_eq_false_iff_not]; omega
        have e57 : decide (57 < (cr s k : Int)) = false := by rw [decide_eq_false_iff_not]; omega
        clear EG hd CC hno hi hb
        generalize cr s k = x at *
        generalize va s k = u at *
        generalize wr.iterAt w.heap.size s (k + 1) = w2 at *
        go_wp2_with fail
        go_roundw
        case rel => exact ⟨k + 1, by omega, by rw [VS.out]; congr 1; omega, NY.out, HI.out, HB.out⟩
        case measure =>
          have e4 : w2.iterPos w.heap.size = k + 1 := by simp [World.iterPos, HI.out]
          rw [IP.out, e4]
          omega
      · have hd' : dig (gn s k) = false := by
          rcases CC with ⟨e, _⟩ | ⟨_, e⟩
          · rw [← e]; simpa using hd
          · simp [dig]; omega
        obtain ⟨b1, b2⟩ := BAD.out (by rw [okd, dgs_no c hd', Bool.false_and])
        have g1 : cr s k < 48 ∨ 57 < cr s k := by simp [dig] at hd; omega
        have HB := Lib.hid (Lib.below_iterAt hb (Nat.le_refl w.heap.size) s (k + cw s k))
        clear hd hd' CC hno hi hb
        generalize wr.iterAt w.heap.size s (k + cw s k) = w2 at *
        generalize cr s k = x at *
        by_cases x48 : x < 48
        · have e48 : decide ((x : Int) < 48) = true := by rw [decide_eq_true_iff]; omega
          go_wp2_with fail
          go_ret2
          exact ⟨by rw [b1, b2]; rfl, HB.out⟩
        · have e48 : decide ((x : Int) < 48) = false := by rw [decide_eq_false_iff_not]; omega
          have e57 : decide (57 < (x : Int)) = true := by rw [decide_eq_true_iff]; omega
          go_wp2_with fail
          go_ret2
          exact ⟨by rw [b1, b2]; rfl, HB.out⟩
    · have hnx := fun ty => Lib.run_next_end_at (P := Tryz.prog) wr w.heap.size s k ty hi c
      have ek : k = s.size := by omega
      obtain ⟨b1, b2⟩ := GOOD.out (by rw [okd, dgs_all (fun i hi => hno i (by omega)), decide_eq_true (show 0 < s.size by omega), decide_eq_true (show s.size ≤ m by omega)]; rfl)
      have HB := Lib.hid hb
      have EK : Hid (va s k = va s s.size) := Lib.hid (by rw [ek])
      clear ek hi hb hno
      go_wp2_with fail
      go_ret2
      exact ⟨by rw [b1, b2, ← EK.out]; rfl, HB.out⟩

theorem wn_okd (s : ByteArray) (h : ¬ (1 < s.size ∧ gn s 0 = 48)) : okd s 10 = wn s := by
  rw [okd, wn]
  have : (!(decide (1 < s.size) && decide (gn s 0 = 48))) = true := by
    by_cases a : 1 < s.size
    · rw [decide_eq_true a, decide_eq_false (fun e => h ⟨a, e⟩)]; rfl
    · rw [decide_eq_false a]; rfl
  rw [this, Bool.and_true]
set_option maxRecDepth 100000 in
set_option maxHeartbeats 4000000 in
theorem Number_c (s : ByteArray) (w : World) (hs : s.size ≤ 9223372036854775807) :
    Calls Tryz.prog 74 #[.string s] w fun e w' => e = .returned (.tuple #[.int .i64 (if wn s = true then (va s s.size : Int) else 0), .int .i64 (if wn s = true then 0 else 4)]) ∧ Below w.heap.size w w' := by
  have DC := pdigits_c s 10 (Nat.le_refl _) w hs
  by_cases h : 1 < s.size ∧ gn s 0 = 48
  · have W : wn s = false := by rw [wn, decide_eq_true h.1, decide_eq_true h.2]; simp
    rw [W]
    have e1 : decide (1 < (s.size : Int)) = true := by rw [decide_eq_true_iff]; omega
    have ga := gn_at s 0 (by omega)
    rw [h.2] at ga
    clear DC
    go_enter Tryz.func74, Tryz.ntmps74
    go_wp2_with fail
    go_ret2
    exact ⟨rfl, brefl w⟩
  · rw [wn_okd s h] at DC
    have T2 : (decide (1 < (s.size : Int)) = false) ∨ (decide (1 < (s.size : Int)) = true ∧ ∃ h0 : 0 < s.size, ((gn s 0 : Int) == 48) = false) := by
      by_cases h' : 1 < s.size
      · exact .inr ⟨by rw [decide_eq_true_iff]; omega, by omega, by rw [beq_eq_false_iff_ne]; have : ¬ gn s 0 = 48 := fun e => h ⟨h', e⟩; omega⟩
      · exact .inl (by rw [decide_eq_false_iff_not]; omega)
    have DC := Lib.hid DC
    generalize (if wn s = true then (va s s.size : Int) else 0) = r at *
    generalize (if wn s = true then (0 : Int) else 4) = z at *
    clear h
    rcases T2 with e1 | ⟨e1, h0, e2⟩
    · go_enter Tryz.func74, Tryz.ntmps74
      go_wp2_with fail
      refine DC.out.mono ?_
      rintro e w' ⟨rfl, hb⟩
      go_wp2_with fail
      go_ret2
      exact ⟨rfl, hb⟩
    · have ga := gn_at s 0 h0
      generalize gn s 0 = y0 at *
      go_enter Tryz.func74, Tryz.ntmps74
      go_wp2_with fail
      refine DC.out.mono ?_
      rintro e w' ⟨rfl, hb⟩
      go_wp2_with fail
      go_ret2
      exact ⟨rfl, hb⟩
end Go.Proofs.YtoecgabdjpgleaaGreatDoor.Wd
namespace Go.Proofs.YtoecgabdjpgleaaGreatDoor.Wd
open Go.ChangeShapes Go.WideShapes Go.ChangeAt Go.RowKit Go.Joins By
set_option linter.unusedVariables false
set_option linter.unusedSimpArgs false

def kLine : ByteArray := ⟨#[115, 101, 114, 118, 101, 114, 32, 34, 97, 32, 98, 34, 32, 35, 32, 120]⟩
def kWords : List W3 := [⟨⟨#[115, 101, 114, 118, 101, 114]⟩, 0, false⟩, ⟨⟨#[97, 32, 98]⟩, 7, true⟩]
set_option maxRecDepth 100000 in
theorem spR_known : spR kLine = .inr kWords := by kernel_rfl
set_option maxRecDepth 100000 in
theorem wn_known : wn ⟨#[52, 50]⟩ = true := by kernel_rfl
set_option maxRecDepth 100000 in
theorem va_known : va ⟨#[52, 50]⟩ (ByteArray.size ⟨#[52, 50]⟩) = 42 := by kernel_rfl

end Go.Proofs.YtoecgabdjpgleaaGreatDoor.Wd
