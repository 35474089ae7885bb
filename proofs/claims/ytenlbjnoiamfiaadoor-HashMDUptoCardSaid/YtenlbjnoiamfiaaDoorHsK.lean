/-
  An array of words in memory, written place by place, read and stored whole; the contract of hash.md5Words.
  Conditions: a block of 64 bytes is handed in.
-/
import Derived.Test.YtenlbjnoiamfiaaDoorHsJ
import Derived.Test.YtenlbjnoiamfiaaDoorHsH
import Derived.Deep.MidRow
import Derived.BigRegion
namespace Go.Proofs.YtenlbjnoiamfiaaDoor.Hs
open Go.RowKit
set_option linter.unusedVariables false
set_option linter.unusedSimpArgs false

/-- an array of n words in block b, that may be written. -/
def As (w : World) (b n : Nat) (g : Nat → Nat) : Prop :=
  b < w.heap.size ∧ (∀ i, i < n → g i < 4294967296) ∧ ∀ i, i < n → w.cell? ⟨b, i, none⟩ = some (.int .u32 (g i)) ∧ w.frozen? ⟨b, i, none⟩ = false
theorem As.below {w w' : World} {b n : Nat} {g : Nat → Nat} (h : As w b n g) (k : Below w.heap.size w w') : As w' b n g :=
  ⟨Nat.lt_of_lt_of_le h.1 k.size, h.2.1, fun i hi => ⟨(k.cell (p := ⟨b, i, none⟩) h.1).trans (h.2.2 i hi).1, (k.frozen (p := ⟨b, i, none⟩) h.1).trans (h.2.2 i hi).2⟩⟩
theorem As.belowB {B : Nat} {w w' : World} {b n : Nat} {g : Nat → Nat} (h : As w b n g) (hb : b < B) (k : Below B w w') : As w' b n g :=
  ⟨Nat.lt_of_lt_of_le h.1 k.size, h.2.1, fun i hi => ⟨(k.cell (p := ⟨b, i, none⟩) hb).trans (h.2.2 i hi).1, (k.frozen (p := ⟨b, i, none⟩) hb).trans (h.2.2 i hi).2⟩⟩
def up (g : Nat → Nat) (k v : Nat) : Nat → Nat := fun i => if i = k then v else g i
theorem As.set {w : World} {b n : Nat} {g : Nat → Nat} (h : As w b n g) (k v : Nat) (hk : k < n) (hv : v < 4294967296) : As (w.setCell ⟨b, k, none⟩ (.int .u32 v)) b n (up g k v) := by
  refine ⟨by simpa [World.setCell] using h.1, fun i hi => ?_, fun i hi => ?_⟩
  · unfold up; split
    · exact hv
    · exact h.2.1 i hi
  · refine ⟨?_, by rw [World.frozen?_setCell]; exact (h.2.2 i hi).2⟩
    unfold up
    by_cases e : i = k
    · subst e
      rw [World.cell?_setCell_same _ _ _ (h.2.2 i hi).1, if_pos rfl]
    · rw [World.cell?_setCell_other _ _ _ _ (fun q => e (by simpa using q.symm)), if_neg e]
      exact (h.2.2 i hi).1
theorem As.eq {w : World} {b n : Nat} {g g' : Nat → Nat} (h : As w b n g) (e : ∀ i, i < n → g i = g' i) : As w b n g' :=
  ⟨h.1, fun i hi => by rw [← e i hi]; exact h.2.1 i hi, fun i hi => by rw [← e i hi]; exact h.2.2 i hi⟩
/-- the words as cells. -/
def wc (g : Nat → Nat) (n : Nat) : List Value := (List.range n).map fun i => .int .u32 ((g i : Nat) : Int)
theorem wc_len (g : Nat → Nat) (n : Nat) : (wc g n).length = n := by simp [wc]
theorem wc_get {g : Nat → Nat} {n j : Nat} (h : j < n) : (wc g n)[j]? = some (.int .u32 ((g j : Nat) : Int)) := by simp [wc, h]
theorem wc_one (g : Nat → Nat) (n : Nat) : (wc g n).toArray.all (·.oneCell') = true := by
  refine all_oneCell_toArray fun v hv => ?_
  simp only [wc, List.mem_map] at hv
  obtain ⟨i, _, rfl⟩ := hv
  rfl
theorem As.range {w : World} {b n : Nat} {g : Nat → Nat} (h : As w b n g) : w.rangeAt b 0 (wc g n) := by
  intro j v hj
  have hj' : j < n := by have := (List.getElem?_eq_some_iff.1 hj).1; rwa [wc_len] at this
  rw [wc_get hj'] at hj
  rw [Nat.zero_add, ← hj]
  exact (h.2.2 j hj').1
theorem As.there {w : World} {b n : Nat} {g : Nat → Nat} (h : As w b n g) : w.there b 0 n := by
  intro j hj
  rw [Nat.zero_add, (h.2.2 j hj).1]
  exact ⟨rfl, (h.2.2 j hj).2⟩
theorem belowCells {B : Nat} {w0 : World} (b : Nat) (hb : B ≤ b) : ∀ (vs : List Value) (o : Nat) (w : World), Below B w0 w → Below B w0 (w.setCells b o vs)
  | [], _, _, h => h
  | v :: r, o, w, h => by
    rw [World.setCells]
    exact belowCells b hb r (o + 1) _ (h.setCell hb v)
theorem As.mk_cells {w : World} {b n : Nat} {g : Nat → Nat} (hb : b < w.heap.size) (ht : w.there b 0 n) (hg : ∀ i, i < n → g i < 4294967296) : As (w.setCells b 0 (wc g n)) b n g := by
  have hl := wc_len g n
  have hr := World.rangeAt_setCells_same w b 0 (wc g n) (by rw [hl]; exact ht)
  have hh := World.there_setCells ht b 0 (wc g n)
  refine ⟨Nat.lt_of_lt_of_le hb (belowCells (B := 0) b (Nat.zero_le _) (wc g n) 0 w (Below.refl _ _)).size, hg, fun i hi => ⟨?_, ?_⟩⟩
  · simpa using hr i _ (wc_get hi)
  · simpa using (hh i hi).2
theorem run_store_wc {P : Program} {w : World} {b n : Nat} (ht : w.there b 0 n) (g : Nat → Nat) : (storeCells ⟨b, 0, none⟩ (wc g n)).run P w = .ok () (w.setCells b 0 (wc g n)) := by
  have h := run_storeCells_cells (P := P) b 0 (wc g n) 0 w (fun j hj => by simpa using (ht j (by rwa [wc_len] at hj)).1) (fun j hj => by simpa using (ht j (by rwa [wc_len] at hj)).2)
    (fun v hv => (Array.all_eq_true_iff_forall_mem.1 (wc_one g n)) v (by simpa using hv))
  simpa using h
theorem results_cell_mid {P : Program} {fn : Func} {p : Tmp} {ty : TypeId} (h : fn.results = #[.cell p ty]) (tmps : Array Value) (w : World) (b : Nat) (cs : List Value) (d : TypeDesc)
    (hp : tmps.getD p undef = .pointer (some ⟨b, 0, none⟩)) (hc : w.rangeAt b 0 cs)
    (hu : P.underlying ty = some d) (hd : d.isRow = true) (hi : (P.info? ty).map (·.size) = some cs.length) :
    (results fn tmps).run P w = .ok (.agg cs.toArray) w := by
  have hp' : tmps[p]?.getD undef = .pointer (some ⟨b, 0, none⟩) := by simpa using hp
  simp [results, h, hp', asAddr, run_loadVar_mid w b 0 ty cs d hc hu hd hi]

theorem low4 (f : Nat → Nat) (hf : ∀ i, f i < 256) (at' : Nat) :
    bits BinOp.or IntKind.u32 (bits BinOp.or IntKind.u32 (bits BinOp.or IntKind.u32 (f at' : Int) ((f (at' + 1) : Int) * 256)) ((f (at' + 2) : Int) * 65536)) ((f (at' + 3) : Int) * 16777216) = (wrd true f at' : Int) := by
  have h1 := low_step f hf at' 1 (by omega)
  have h2 := low_step f hf at' 2 (by omega)
  have h3 := low_step f hf at' 3 (by omega)
  have b1 := hf (at' + 1)
  have b2 := hf (at' + 2)
  have b3 := hf (at' + 3)
  have e1 : (wl f at' 1 : Int) = (f at' : Int) := by simp [wl]
  have m1 : (f (at' + 1) : Int) * 2 ^ (8 * 1) % 4294967296 = (f (at' + 1) : Int) * 256 := by omega
  have m2 : (f (at' + 2) : Int) * 2 ^ (8 * 2) % 4294967296 = (f (at' + 2) : Int) * 65536 := by omega
  have m3 : (f (at' + 3) : Int) * 2 ^ (8 * 3) % 4294967296 = (f (at' + 3) : Int) * 16777216 := by omega
  rw [m1, e1] at h1
  rw [m2] at h2
  rw [m3] at h3
  rw [h1, h2, h3]
  rfl

theorem As.new (w : World) (n : Nat) (ty : TypeId) : As (w.alloc (.cells (Array.replicate n (.int .u32 0)) ty)) w.heap.size n (fun _ => 0) := by
  refine ⟨by simp, fun _ _ => by simp, fun i hi => ⟨?_, by simp [go_sem]⟩⟩
  rw [World.cell?_alloc_mark w _ _ (0, 0) i]
  simp [hi]
theorem As.new2 (w : World) (n : Nat) (ty : TypeId) (o : Obj) : As ((w.alloc o).alloc (.cells (Array.replicate n (.int .u32 0)) ty)) (w.heap.size + 1) n (fun _ => 0) := by
  have h := As.new (w.alloc o) n ty
  rwa [show (w.alloc o).heap.size = w.heap.size + 1 from by simp] at h
theorem bdrew1 (B : Nat) (w : World) : Below B w w.drew := ⟨rfl, rfl, rfl, Nat.le_refl _, fun _ _ => rfl⟩
theorem info_a16 : (Tryd.prog.info? 51).map (·.size) = some 16 := by kernel_rfl
/-- a slice's cells, seen from the block's beginning. -/
theorem Bs.at {w : World} {b off n : Nat} {f : Nat → Nat} (h : Bs w b off n f) {i : Nat} (hi : i < n) : w.cell? ⟨b, off + i, none⟩ = some (.int .u8 (f i)) := h.2.2 i hi

set_option maxRecDepth 100000 in
set_option maxHeartbeats 2000000 in
theorem md5Words_c (b off cap : Nat) (f : Nat → Nat) (w : World) (B : Bs w b off 64 f) :
    Calls Tryd.prog 34 #[.slice (some ⟨b, off, none⟩) 64 cap] w fun e w' => e = .returned (.agg (wc (fun i => wrd true f (4 * i)) 16).toArray) ∧ Below w.heap.size w w' := by
  have WS := Lib.hid (balloc (balloc (brefl w) (.cells #[.int .u32 0, .int .u32 0, .int .u32 0, .int .u32 0, .int .u32 0, .int .u32 0, .int .u32 0, .int .u32 0, .int .u32 0, .int .u32 0, .int .u32 0, .int .u32 0, .int .u32 0, .int .u32 0, .int .u32 0, .int .u32 0] 51)) (.cells #[.int .u32 0, .int .u32 0, .int .u32 0, .int .u32 0, .int .u32 0, .int .u32 0, .int .u32 0, .int .u32 0, .int .u32 0, .int .u32 0, .int .u32 0, .int .u32 0, .int .u32 0, .int .u32 0, .int .u32 0, .int .u32 0] 51))
  have HB := Lib.hid (B.below WS.out)
  have R0 : Hid (As ((w.alloc (.cells #[.int .u32 0, .int .u32 0, .int .u32 0, .int .u32 0, .int .u32 0, .int .u32 0, .int .u32 0, .int .u32 0, .int .u32 0, .int .u32 0, .int .u32 0, .int .u32 0, .int .u32 0, .int .u32 0, .int .u32 0, .int .u32 0] 51)).alloc (.cells #[.int .u32 0, .int .u32 0, .int .u32 0, .int .u32 0, .int .u32 0, .int .u32 0, .int .u32 0, .int .u32 0, .int .u32 0, .int .u32 0, .int .u32 0, .int .u32 0, .int .u32 0, .int .u32 0, .int .u32 0, .int .u32 0] 51)) w.heap.size 16 (fun _ => 0)) := Lib.hid ((As.new w 16 51).below (balloc (brefl _) _))
  have A0 : Hid (As ((w.alloc (.cells #[.int .u32 0, .int .u32 0, .int .u32 0, .int .u32 0, .int .u32 0, .int .u32 0, .int .u32 0, .int .u32 0, .int .u32 0, .int .u32 0, .int .u32 0, .int .u32 0, .int .u32 0, .int .u32 0, .int .u32 0, .int .u32 0] 51)).alloc (.cells #[.int .u32 0, .int .u32 0, .int .u32 0, .int .u32 0, .int .u32 0, .int .u32 0, .int .u32 0, .int .u32 0, .int .u32 0, .int .u32 0, .int .u32 0, .int .u32 0, .int .u32 0, .int .u32 0, .int .u32 0, .int .u32 0] 51)) (w.heap.size + 1) 16 (fun _ => 0)) := Lib.hid (As.new2 w 16 51 _)
  have L1 := B.1
  clear B
  go_enter Tryd.func34, Tryd.ntmps34
  go_wp2_with fail
  generalize (w.alloc (.cells #[.int .u32 0, .int .u32 0, .int .u32 0, .int .u32 0, .int .u32 0, .int .u32 0, .int .u32 0, .int .u32 0, .int .u32 0, .int .u32 0, .int .u32 0, .int .u32 0, .int .u32 0, .int .u32 0, .int .u32 0, .int .u32 0] 51)).alloc (.cells #[.int .u32 0, .int .u32 0, .int .u32 0, .int .u32 0, .int .u32 0, .int .u32 0, .int .u32 0, .int .u32 0, .int .u32 0, .int .u32 0, .int .u32 0, .int .u32 0, .int .u32 0, .int .u32 0, .int .u32 0, .int .u32 0] 51) = W0 at *
  go_loopw [6] (fun i wr => ∃ k : Nat, k ≤ 16 ∧ i = .int .i64 k ∧ As wr (w.heap.size + 1) 16 (fun i => if i < k then wrd true f (4 * i) else 0) ∧ Below (w.heap.size + 1) W0 wr) (fun i _ => 16 - (intOf i).toNat)
  case atStart => exact ⟨0, by omega, rfl, A0.out.eq (by simp), Below.refl _ _⟩
  case round =>
    obtain ⟨k, hk, rfl, ar, hb⟩ := hrel
    rename World => wr
    have AR := Lib.hid ar
    have BB := Lib.hid hb
    have BS := Lib.hid (HB.out.belowB (by omega) hb)
    clear ar hb
    by_cases c : k < 16
    · have e0 : decide ((k : Int) < 16) = true := by rw [decide_eq_true_iff]; omega
      have LO := Lib.hid (low4 f BS.out.2.1 (4 * k))
      have g0 := BS.out.at (i := 4 * k) (by omega)
      have g1 := BS.out.at (i := 4 * k + 1) (by omega)
      have g2 := BS.out.at (i := 4 * k + 2) (by omega)
      have g3 := BS.out.at (i := 4 * k + 3) (by omega)
      have f0 := BS.out.2.1 (4 * k)
      have f1 := BS.out.2.1 (4 * k + 1)
      have f2 := BS.out.2.1 (4 * k + 2)
      have f3 := BS.out.2.1 (4 * k + 3)
      obtain ⟨a1, a2⟩ := AR.out.2.2 k c
      have VL := wrd_lt true f BS.out.2.1 (4 * k)
      have ST := Lib.hid (AR.out.set k (wrd true f (4 * k)) c VL)
      generalize f (4 * k) = x0 at *
      generalize f (4 * k + 1) = x1 at *
      generalize f (4 * k + 2) = x2 at *
      generalize f (4 * k + 3) = x3 at *
      go_wp2_with fail
      go_region
      rw [LO.out]
      go_wp2_with fail
      go_roundw
      case rel => exact ⟨k + 1, by omega, by go_num, (ST.out.below (bdrew1 _ _)).eq (fun i hi => by unfold up; by_cases e : i = k <;> by_cases e' : i < k <;> simp [e, e'] <;> omega), (BB.out.setCell (Nat.le_refl _) _).trans (bdrew1 _ _)⟩
      case measure => simp [intOf]; omega
    · have e0 : decide ((k : Int) < 16) = false := by rw [decide_eq_false_iff_not]; omega
      obtain rfl : k = 16 := by omega
      have AW := Lib.hid (AR.out.eq (g' := fun i => wrd true f (4 * i)) (fun i hi => by simp [hi]))
      have RW := Lib.hid (R0.out.belowB (by omega) BB.out)
      have VL : ∀ i, i < 16 → wrd true f (4 * i) < 4294967296 := AW.out.2.1
      have FI := Lib.hid (As.mk_cells (g := fun i => wrd true f (4 * i)) RW.out.1 RW.out.there VL)
      have FB := Lib.hid (belowCells (B := w.heap.size) w.heap.size (Nat.le_refl _) (wc (fun i => wrd true f (4 * i)) 16) 0 wr (WS.out.trans (BB.out.mono (by omega))))
      have SE := run_store_wc (P := Tryd.prog) RW.out.there (fun i => wrd true f (4 * i))
      go_wp2_with (refine wpList_load_mid rfl 51 _ rfl _ 0 rfl (wc (fun i => wrd true f (4 * i)) 16) _ AW.out.range Tryd.underlying51 rfl (by rw [wc_len]; exact info_a16) ?_)
      refine bodyPost_ret (v := .agg (wc (fun i => wrd true f (4 * i)) 16).toArray) (results_cell_mid rfl _ _ w.heap.size _ _ rfl FI.out.range Tryd.underlying51 rfl (by rw [wc_len]; exact info_a16)) rfl ⟨rfl, FB.out⟩
end Go.Proofs.YtenlbjnoiamfiaaDoor.Hs
